package codec

import (
	"fmt"
	"slices"
	"testing"

	"twine/api"
	"twine/path"
)

// hashItems: the places in l of the hashes.
func hashItems(l []item) []int {
	var out []int
	for i, x := range l {
		if x.what == "hash" {
			out = append(out, i)
		}
	}
	return out
}

// Each hash by itself, at its first byte, in the midst, at its last one.
func TestP6_3OneHash(t *testing.T) {
	for name, n := range samples() {
		for version := 1; version <= 3; version++ {
			l := itemsOf(projected(n, version), version)
			for _, i := range hashItems(l) {
				for _, at := range []int{0, 1, 15, 31} {
					b := laid(version, with(l, i, turned(l[i].b, at, 0x10)))
					refused(t, fmt.Sprint(name, ", version ", version), b, api.MaxNodes, api.Fault{At: placeOf(l, i), Path: l[i].path, Err: api.ErrCodecHash})
				}
				refused(t, name, laid(version, with(l, i, make([]byte, 32))), api.MaxNodes, api.Fault{At: placeOf(l, i), Path: l[i].path, Err: api.ErrCodecHash})
			}
		}
	}
}

// Of several the one whose path comes first is told: all pairs, and three.
func TestP6_3SeveralHashes(t *testing.T) {
	n := dir("", 7, dir("a", 1, dir("b", 2, dir("c", 3)), dir("d", 4)), dir("a b", 5), dir("a.b", 6, dir("e", 7, file("f", 1, 1))), dir("b", 8, link("x", 1), dir("y", 1)))
	for version := 1; version <= 3; version++ {
		l := itemsOf(projected(n, version), version)
		all := hashItems(l)
		if len(all) != 10 {
			t.Fatal(len(all))
		}
		for _, i := range all {
			for _, j := range all {
				for _, k := range all {
					bad := l
					first := l[i].path
					at := placeOf(l, i)
					for _, h := range []int{i, j, k} {
						bad = with(bad, h, turned(l[h].b, h%32, 1))
						if path.Compare(l[h].path, first) < 0 {
							first, at = l[h].path, placeOf(l, h)
						}
					}
					refused(t, fmt.Sprint(l[i].path, ", ", l[j].path, ", ", l[k].path), laid(version, bad), 99, api.Fault{At: at, Path: first, Err: api.ErrCodecHash})
				}
			}
		}
		bad := slices.Clone(l)
		for _, i := range all {
			bad[i].b = make([]byte, 32)
		}
		refused(t, "all of them", laid(version, bad), 99, api.Fault{At: placeOf(l, all[0]), Err: api.ErrCodecHash})
	}
}

// Two hashes that are exchanged are both wrong.
func TestP6_3HashesExchanged(t *testing.T) {
	n := dir("", 7, dir("a", 1), dir("b", 2))
	l := itemsOf(n, 3)
	i, j := find(t, l, "hash", "a"), find(t, l, "hash", "b")
	refused(t, "exchanged", laid(3, with(with(l, i, l[j].b), j, l[i].b)), 9, api.Fault{At: placeOf(l, i), Path: "a", Err: api.ErrCodecHash})
}

// What a hash covers can't be changed without it; the root's is told, whose path comes first.
func TestP6_3WhatHashesCover(t *testing.T) {
	n := sample(file("", 4, 77, 9, 10, 11, 12))
	for version := 1; version <= 3; version++ {
		l := itemsOf(projected(n, version), version)
		root := api.Fault{At: placeOf(l, find(t, l, "hash", "")), Err: api.ErrCodecHash}
		for i, x := range l {
			switch x.what {
			case "digest":
				refused(t, "a digest", laid(version, with(l, i, turned(x.b, 31, 1))), 99, root)
			case "mode":
				refused(t, "a mode", laid(version, with(l, i, []byte{(x.b[0] + 1) % 9})), 99, root)
			case "size":
				refused(t, "a size", laid(version, with(l, i, number(12))), 99, root)
			}
		}
		i := find(t, l, "name", "\xff\xff")
		refused(t, "a name", laid(version, with(l, i, text("\xff"))), 99, root)
	}
}

// Marks aren't covered: other ones make another tree.
func TestP6_3MarksArentCovered(t *testing.T) {
	n := dir("", 7, file("f", 6, 1, 3, 4, 5, 6))
	l := itemsOf(n, 3)
	i := slices.IndexFunc(l, func(x item) bool { return x.what == "stamp" })
	n.Kids[0].Marks[0].Stamp = 77
	taken(t, "another stamp", laid(3, with(l, i, number(77))), 9, n, 3)
}

// In version 1 the hashes are those of unknown modes, in version 2 and 3 of the modes that are written.
func TestP6_2HashesOfOtherModes(t *testing.T) {
	known, unknown := dir("", 7, dir("d", 5), file("f", 6, 1)), dir("", 8, dir("d", 8), file("f", 8, 1))
	one := itemsOf(unknown, 1)
	taken(t, "version 1, unknown modes", laid(1, one), 9, unknown, 1)
	for _, i := range hashItems(one) {
		two := itemsOf(known, 1)
		refused(t, "version 1, known modes", laid(1, with(one, i, two[i].b)), 9, api.Fault{At: placeOf(one, i), Path: one[i].path, Err: api.ErrCodecHash})
	}
	for version := 2; version <= 3; version++ {
		l, other := itemsOf(known, version), itemsOf(unknown, version)
		for _, i := range hashItems(l) {
			refused(t, "the hashes of unknown modes", laid(version, with(l, i, other[i].b)), 9, api.Fault{At: placeOf(l, i), Path: l[i].path, Err: api.ErrCodecHash})
		}
	}
}

// Paths of many and long names are told whole.
func TestP6_3PathOfAHash(t *testing.T) {
	n := chain(dir("", 7), api.MaxDepth)
	l := itemsOf(n, 2)
	all := hashItems(l)
	for _, i := range all {
		refused(t, fmt.Sprint(len(l[i].path), " bytes of a path"), laid(2, with(l, i, make([]byte, 32))), 99, api.Fault{At: placeOf(l, i), Path: l[i].path, Err: api.ErrCodecHash})
	}
}
