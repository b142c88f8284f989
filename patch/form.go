package patch

import (
	"slices"

	"twine/api"
	"twine/tree"
)

// How an archive's bytes begin.
const (
	mark    = "twne"
	version = 3
)

// The first bytes of the texts of a directory's hash (layer 5).
const (
	dirSign   = 'D'
	leafSign  = 'N'
	innerSign = 'I'
)

// dirText is a directory's own text.
func dirText(mode int, n *top) []byte {
	var sum [32]byte
	if n != nil {
		sum = n.sum
	}
	return append(putNumber(putNumber([]byte{dirSign}, mode), n.size()), sum[:]...)
}

// leafText is the text by which a child stands in its directory.
func leafText(name string, hash [32]byte) []byte {
	return append(putText([]byte{leafSign}, name), hash[:]...)
}

// innerText is the text that puts two tops together.
func innerText(left, right [32]byte) []byte {
	return slices.Concat([]byte{innerSign}, left[:], right[:])
}

// putNode lays a thing's node behind b, without those below it. The root has no name.
func putNode(b []byte, name string, t *tree.Tree, k known) []byte {
	v := t.Value()
	b = append(b, byte(v.Kind))
	if name != "" {
		b = putText(b, name)
	}
	switch v.Kind {
	case api.Dir:
		b = putNumber(append(b, byte(v.Mode)), k.top.size())
		b = append(b, k.hash[:]...)
	case api.File:
		b = append(putContent(b, v), byte(v.Mode))
		b = putMarks(b, t.Marks())
	case api.Link:
		b = putContent(b, v)
	}
	return b
}

// putContent lays down a size and a digest.
func putContent(b []byte, v api.Value) []byte {
	return append(putNumber(b, v.Size), v.Sum[:]...)
}

func putMarks(b []byte, marks [2]api.Mark) []byte {
	for _, m := range marks {
		b = putNumber(putNumber(b, m.Number), m.Stamp)
	}
	return b
}

// putNumber lays down a number as layer 1 has it: seven bits a byte, the lowest first, the highest bit telling that more follow.
func putNumber(b []byte, n int) []byte {
	for ; n >= 0x80; n >>= 7 {
		b = append(b, byte(n)|0x80)
	}
	return append(b, byte(n))
}

func putText(b []byte, s string) []byte {
	return append(putNumber(b, len(s)), s...)
}
