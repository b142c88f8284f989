package recon

import (
	"slices"

	"twine/api"
	"twine/path"
	"twine/tree"
)

// spot: a path that the merge comes to, and what is known of it.
type spot struct {
	path  string
	depth int           // how many names the path has
	sides [2]*tree.Tree // A's and B's subtree there; nil: nothing
	old   *tree.Tree    // the archive's
	lost  [][]string    // the names of each path that couldn't be read, on either side, and is this one or lies below it, rising
	shut  int           // the side to which nothing is carried, since it has not the kept directory above; 0: none
}

// waysOf tells the names of each lost path that is right, rising. Whose it is doesn't matter: rule 0 asks for a side, no matter which.
func waysOf(lost [2][]string) [][]string {
	var ways [][]string
	for _, p := range path.Sorted(slices.Concat(lost[0], lost[1])) {
		if names, e := path.Split(p, api.MaxDepth); e == api.OK {
			ways = append(ways, names)
		}
	}
	return ways
}

// cut tells those ways, at whose beginning all are that have the name at that depth, and the others.
func cut(ways [][]string, depth int, name string) (its, others [][]string) {
	n := 0
	for n < len(ways) && ways[n][depth] == name {
		n++
	}
	return ways[:n], ways[n:]
}

func (s spot) side(side int) *tree.Tree { return s.sides[side-1] }

// isLost tells whether the spot itself couldn't be read: a path stands ahead of what lies below it.
func (s spot) isLost() bool { return len(s.lost) > 0 && len(s.lost[0]) == s.depth }

// names tells the names below the spot to which the merge goes on, rising. (The spot itself isn't lost, so that each way goes on.)
func (s spot) names() []string {
	var l []string
	for _, t := range []*tree.Tree{s.sides[0], s.sides[1], s.old} {
		if t == nil {
			continue
		}
		for name := range t.Children() {
			l = append(l, name)
		}
	}
	for _, way := range s.lost {
		l = append(l, way[s.depth])
	}
	slices.Sort(l)
	return slices.Compact(l)
}

// kid tells the spot of a child, but for what is lost there.
func (s spot) kid(name string) spot {
	p := name
	if s.depth > 0 {
		p = path.Join([]string{s.path, name})
	}
	return spot{
		path:  p,
		depth: s.depth + 1,
		sides: [2]*tree.Tree{child(s.sides[0], name), child(s.sides[1], name)},
		old:   child(s.old, name),
		shut:  s.shut,
	}
}

// child tells nil where nothing stands.
func child(t *tree.Tree, name string) *tree.Tree {
	if t == nil {
		return nil
	}
	s, _ := t.Sub(name)
	return s
}

// valueOf tells the zero value of nothing.
func valueOf(t *tree.Tree) api.Value {
	if t == nil {
		return api.Value{}
	}
	return t.Value()
}

func isDir(t *tree.Tree) bool { return valueOf(t).Kind == api.Dir }
