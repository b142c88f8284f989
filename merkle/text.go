package merkle

import (
	"math/bits"
	"slices"

	"twine/api"
	"twine/wire"
)

// The first bytes of the texts: no text of one sort is one of another.
const (
	fileText  = 'F'
	linkText  = 'L'
	dirText   = 'D'
	leafText  = 'N'
	innerText = 'I'
)

// own is the text of a thing; count and top are a directory's alone.
func own(v api.Value, count int, top [32]byte) []byte {
	switch v.Kind {
	case api.File:
		return append(numbered(fileText, v.Mode, v.Size), v.Sum[:]...)
	case api.Link:
		return append(numbered(linkText, v.Size), v.Sum[:]...)
	}
	return append(numbered(dirText, v.Mode, count), top[:]...)
}

// leaf is the text by which a child stands in its directory.
func leaf(name string, hash [32]byte) []byte {
	return append(wire.PutText([]byte{leafText}, name), hash[:]...)
}

// inner is the text that puts two tops together.
func inner(first, others [32]byte) []byte {
	return slices.Concat([]byte{innerText}, first[:], others[:])
}

// numbered is a first byte, and numbers behind it.
func numbered(first byte, numbers ...int) []byte {
	b := []byte{first}
	for _, n := range numbers {
		b = wire.PutUint(b, uint64(n))
	}
	return b
}

// half is the greatest power of two below n; n is 2 or more.
func half(n int) int { return 1 << (bits.Len(uint(n-1)) - 1) }
