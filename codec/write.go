package codec

import (
	"twine/api"
	"twine/tree"
	"twine/wire"
)

// writer: an archive's bytes, as far as they are laid down.
type writer struct {
	b       []byte
	version int
	hashes  [][32]byte // of the directories that aren't through yet, in the order in which they will be
}

// written tells the tree that a version writes down. (That it drops marks makes no other tree: no hash covers them.)
func written(t *tree.Tree, version int) *tree.Tree {
	if version >= withModes {
		return t
	}
	n := t.Node()
	forgetModes(&n)
	u, _ := tree.Of(n) // it takes n: each mode may be Unknown
	return u
}

func forgetModes(n *api.Node) {
	if n.Value.Kind != api.Link {
		n.Value.Mode = api.Unknown
	}
	for i := range n.Kids {
		forgetModes(&n.Kids[i])
	}
}

// encoded tells the bytes of a tree that may be written.
func encoded(t *tree.Tree, version int) []byte {
	w := &writer{version: version, hashes: hashesOf(t)}
	w.add([]byte(mark))
	w.number(version)
	w.number(t.Count())
	w.node(nil, t)
	w.add(sumOf(w.b))
	return w.b
}

// add lays bytes behind those that are there. (wire's Puts would make all of them anew each time.)
func (w *writer) add(b []byte) { w.b = append(w.b, b...) }

func (w *writer) number(n int) { w.add(wire.PutUint(nil, uint64(n))) }

// node lays down a node and all below it; name: its name as a text's bytes, of the root none.
func (w *writer) node(name []byte, t *tree.Tree) {
	v := t.Value()
	w.add([]byte{byte(v.Kind)})
	w.add(name)
	switch v.Kind {
	case api.Dir:
		w.mode(v)
		w.children(t)
	case api.File:
		w.content(v)
		w.mode(v)
		w.marks(t)
	case api.Link:
		w.content(v)
	}
}

// content lays down a size and a digest.
func (w *writer) content(v api.Value) {
	w.number(v.Size)
	w.add(v.Sum[:])
}

func (w *writer) mode(v api.Value) {
	if w.version >= withModes {
		w.add([]byte{byte(v.Mode)})
	}
}

func (w *writer) marks(t *tree.Tree) {
	if w.version < withMarks {
		return
	}
	for _, m := range t.Marks() {
		w.number(m.Number)
		w.number(m.Stamp)
	}
}

// children lays down how many children t has, its hash, and the children. The hash comes last: only behind the children it is the next one.
func (w *writer) children(t *tree.Tree) {
	count := 0
	for range t.Children() {
		count++
	}
	w.number(count)
	at := len(w.b)
	w.add(make([]byte, len(w.hashes[0])))
	for name, kid := range t.Children() {
		w.node(wire.PutText(nil, name), kid)
	}
	copy(w.b[at:], w.hashes[0][:])
	w.hashes = w.hashes[1:]
}
