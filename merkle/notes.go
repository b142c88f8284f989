package merkle

import (
	"bytes"

	"twine/tree"
)

// notes: texts that are found again by their sums.
type notes struct {
	sum  func(text []byte) [32]byte
	kept map[[32]byte]pair
}

// pair: two unlike texts of one sum, or one text; more are never asked for: of two unlike ones at least one is unlike any third.
type pair struct{ one, other []byte }

// noting makes notes without a text.
func noting(sum func(text []byte) [32]byte) *notes {
	return &notes{sum: sum, kept: map[[32]byte]pair{}}
}

// add sums a text, and notes it.
func (n *notes) add(text []byte) [32]byte {
	s := n.sum(text)
	p := n.kept[s]
	switch {
	case p.one == nil:
		n.kept[s] = pair{one: text}
	case p.other == nil && !bytes.Equal(p.one, text):
		n.kept[s] = pair{one: p.one, other: text}
	}
	return s
}

// unlike tells a noted text that has the sum s and is unlike text; nil, if there is none.
func (n *notes) unlike(s [32]byte, text []byte) []byte {
	p := n.kept[s]
	if bytes.Equal(p.one, text) {
		return p.other
	}
	return p.one
}

// clash tells a noted text and an unlike one of t with one sum.
func (n *notes) clash(t *tree.Tree) ([]byte, []byte, bool) {
	var noted, found []byte
	w := summing(nil)
	w.sum = func(text []byte) [32]byte {
		s := n.sum(text)
		if x := n.unlike(s, text); x != nil {
			noted, found, w.left = x, text, true
		}
		return s
	}
	w.hash(t)
	return noted, found, w.left
}
