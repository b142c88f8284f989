package merkle

import (
	"slices"
	"strings"

	"twine/api"
	"twine/tree"
)

// walk: a going through a tree, which hands each text to sum, in the order of P5.3. Once sum sets left, nothing more is handed to it, and what is answered means nothing.
type walk struct {
	sum   func(text []byte) [32]byte
	left  bool
	known map[*tree.Tree][32]byte // the hashes of directories; nil, where each text is wanted as often as it stands there
}

// kid: a child of a directory.
type kid struct {
	name string
	tree *tree.Tree
	hash [32]byte // once hashKids was there
}

// summing makes a walk that goes through a subtree once, even if a tree has it at several places: by a few Puts it may have it at more places than can be gone to.
func summing(sum func(text []byte) [32]byte) *walk {
	return &walk{sum: sum, known: map[*tree.Tree][32]byte{}}
}

// add hands a text on.
func (w *walk) add(text []byte) [32]byte {
	if w.left {
		return [32]byte{}
	}
	return w.sum(text)
}

// hash reckons a tree's hash.
func (w *walk) hash(t *tree.Tree) [32]byte {
	v := t.Value()
	if v.Kind != api.Dir {
		return w.add(own(v, 0, [32]byte{}))
	}
	if h, ok := w.known[t]; ok {
		return h
	}
	kids := kidsOf(t)
	w.hashKids(kids)
	h := w.add(own(v, len(kids), w.top(kids)))
	if w.known != nil {
		w.known[t] = h
	}
	return h
}

// kidsOf tells a directory's children, their hashes yet to be reckoned.
func kidsOf(t *tree.Tree) []kid {
	var kids []kid
	for name, sub := range t.Children() {
		kids = append(kids, kid{name: name, tree: sub})
	}
	return kids
}

// hashKids fills the children's hashes in.
func (w *walk) hashKids(kids []kid) {
	for i := range kids {
		if w.left {
			return
		}
		kids[i].hash = w.hash(kids[i].tree)
	}
}

// top reckons the top of children that have their hashes.
func (w *walk) top(kids []kid) [32]byte {
	if len(kids) == 0 || w.left {
		return [32]byte{}
	}
	if len(kids) == 1 {
		return w.add(leaf(kids[0].name, kids[0].hash))
	}
	k := half(len(kids))
	first := w.top(kids[:k])
	others := w.top(kids[k:])
	return w.add(inner(first, others))
}

// siblings reckons the siblings of the child at a place, from its leaf upwards. That child's own hash isn't asked.
func (w *walk) siblings(kids []kid, place int) [][32]byte {
	if len(kids) == 1 {
		return nil
	}
	k := half(len(kids))
	if place < k {
		return append(w.siblings(kids[:k], place), w.top(kids[k:]))
	}
	return append(w.siblings(kids[k:], place-k), w.top(kids[:k]))
}

// placeOf tells at which place a name stands, or would stand, and whether it does.
func placeOf(kids []kid, name string) (int, bool) {
	return slices.BinarySearchFunc(kids, name, func(k kid, name string) int {
		return strings.Compare(k.name, name)
	})
}
