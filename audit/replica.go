package audit

import (
	"maps"
	"slices"
	"strings"

	"twine/api"
	"twine/path"
	"twine/rules"
	"twine/sum"
	"twine/tree"
)

// staging is the place in a volume's root that is no part of its replica.
const staging = ".twine"

// replica: a volume as a run's scan sees it.
type replica struct {
	things picture // without what is let be, and without the staging place
	tree   *tree.Tree
	held   []string
}

// replicaOf tells a volume's replica. What isn't part of it is gone from the picture then. (The staging place goes first: it is never looked at, so that nothing is held by it.)
func replicaOf(m picture, r *rules.Rules) replica {
	m.clean()
	held := m.sift(r)
	return replica{m, treeOf(m), held}
}

// clean deletes the staging place.
func (m picture) clean() {
	for p := range m {
		if path.Under(p, staging) {
			delete(m, p)
		}
	}
}

// sift deletes what is let be, and tells the directories in which that lies, rising.
func (m picture) sift(r *rules.Rules) []string {
	var gone []string
	for p := range m {
		if r.Skip(p) {
			gone = append(gone, p)
			delete(m, p)
		}
	}
	held := map[string]struct{}{}
	for _, p := range gone {
		above, _ := path.Above(p)
		if _, ok := m[above]; ok { // else it is let be itself: no directory of the replica
			hold(held, above)
		}
	}
	return path.Sorted(slices.Collect(maps.Keys(held)))
}

// hold has a directory held, and all above it.
func hold(held map[string]struct{}, dir string) {
	for {
		if _, known := held[dir]; known {
			return // those above it are, too
		}
		held[dir] = struct{}{}
		if dir == "" {
			return
		}
		dir, _ = path.Above(dir)
	}
}

// treeOf tells the tree of all that is in a picture.
func treeOf(m picture) *tree.Tree {
	n, _ := m.node(path.Sorted(slices.Collect(maps.Keys(m))))
	t, _ := tree.Of(n) // what can be a volume's can be a tree's
	return t
}

// node tells what stands at the first path with all below it, which comes right behind it, and the paths that are left.
func (m picture) node(paths []string) (api.Node, []string) {
	p, left := paths[0], paths[1:]
	_, name := path.Above(p)
	n := api.Node{Name: strings.Clone(name), Value: valueOf(m[p])} // a name that was cut out of a path would keep all of the path in memory
	for len(left) > 0 && path.Under(left[0], p) {
		var kid api.Node
		kid, left = m.node(left)
		n.Kids = append(n.Kids, kid)
	}
	return n, left
}

// valueOf tells the value of a thing; a link's is that of its target's bytes.
func valueOf(x api.Thing) api.Value {
	v := api.Value{Kind: x.Kind, Mode: x.Mode}
	if x.Kind != api.Dir {
		v.Size, v.Sum = len(x.Data), sum.Digest(x.Data)
	}
	return v
}
