package merkle

import (
	"twine/api"
	"twine/tree"
	"twine/wire"
)

// What a proof's parts begin with.
const (
	stepPart  = 1 // a name is found
	foundPart = 2 // all names are found
	gapPart   = 3 // a directory has no such name
	otherPart = 4 // what is reached is no directory
)

// proof reckons the proof of what t has at the path of these names.
func (w *walk) proof(t *tree.Tree, names []string) []byte {
	var b []byte
	for _, name := range names {
		v := t.Value()
		if v.Kind != api.Dir {
			return append(b, other(v)...)
		}
		kids := kidsOf(t)
		place, there := placeOf(kids, name)
		if !there {
			return append(b, w.gap(v.Mode, kids, place)...)
		}
		b = append(b, w.step(v.Mode, kids, place)...)
		t = kids[place].tree
	}
	return append(b, w.found(t)...)
}

// step is the part of a name that is found. The child's own subtree isn't hashed: the parts behind tell of it.
func (w *walk) step(mode int, kids []kid, place int) []byte {
	w.hashKids(kids[:place])
	w.hashKids(kids[place+1:])
	b := numbered(stepPart, mode, len(kids), place)
	return append(b, joined(w.siblings(kids, place))...)
}

// found is the end where all names are found.
func (w *walk) found(t *tree.Tree) []byte {
	if t.Value().Kind != api.Dir {
		return []byte{foundPart}
	}
	kids := kidsOf(t)
	w.hashKids(kids)
	top := w.top(kids)
	return append(numbered(foundPart, len(kids)), top[:]...)
}

// gap is the end where a directory has no such name: k of its children stand ahead of it.
func (w *walk) gap(mode int, kids []kid, k int) []byte {
	w.hashKids(kids)
	b := numbered(gapPart, mode, len(kids), k)
	if k > 0 {
		b = append(b, w.neighbour(kids, k-1)...)
	}
	if k < len(kids) {
		b = append(b, w.neighbour(kids, k)...)
	}
	return b
}

// neighbour is what a gap tells of the child at a place.
func (w *walk) neighbour(kids []kid, place int) []byte {
	c := kids[place]
	b := append(wire.PutText(nil, c.name), c.hash[:]...)
	return append(b, joined(w.siblings(kids, place))...)
}

// other is the end where what is reached is a file or a link, and names are left.
func other(v api.Value) []byte {
	if v.Kind == api.File {
		return append(numbered(otherPart, v.Kind, v.Mode, v.Size), v.Sum[:]...)
	}
	return append(numbered(otherPart, v.Kind, v.Size), v.Sum[:]...)
}

// joined lays sums one behind the other.
func joined(sums [][32]byte) []byte {
	var b []byte
	for _, s := range sums {
		b = append(b, s[:]...)
	}
	return b
}
