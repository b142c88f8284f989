// Package wire: numbers and texts as bytes; a reader that says where: see doc/01-wire.md.
package wire

import "slices"

// A number's groups: seven bits each, and a bit that says that another one follows.
const (
	groupBits = 7
	groupMask = 0x7F
	moreBit   = 0x80
)

// PutUint lays a number behind b.
func PutUint(b []byte, n uint64) []byte {
	return slices.Concat(b, groups(n))
}

// PutText lays a text behind b.
func PutText(b []byte, s string) []byte {
	return slices.Concat(b, groups(uint64(len(s))), []byte(s))
}

// groups tells a number's bytes, the lowest group first.
func groups(n uint64) []byte {
	var out []byte
	for n >= moreBit {
		out = append(out, byte(n)|moreBit)
		n >>= groupBits
	}
	return append(out, byte(n))
}
