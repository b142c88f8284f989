package codec

import (
	"bytes"
	"crypto/sha256"
	"encoding/binary"
	"errors"
	"fmt"
	"hash/crc32"
	"reflect"
	"slices"
	"strings"
	"testing"

	"twine/api"
	"twine/tree"
)

// This file: trees to try, and their bytes, reckoned from raw data as plainly as they can be: a list of items, one behind the other.

func dir(name string, mode int, kids ...api.Node) api.Node {
	return api.Node{Name: name, Value: api.Value{Kind: api.Dir, Mode: mode}, Kids: kids}
}

func file(name string, mode, size int, marks ...int) api.Node {
	n := api.Node{Name: name, Value: api.Value{Kind: api.File, Mode: mode, Size: size, Sum: [32]byte{byte(size), 7, 31: 1}}}
	if len(marks) > 0 {
		n.Marks = [2]api.Mark{{Number: marks[0], Stamp: marks[1]}, {Number: marks[2], Stamp: marks[3]}}
	}
	return n
}

func link(name string, size int) api.Node {
	return api.Node{Name: name, Value: api.Value{Kind: api.Link, Size: size, Sum: [32]byte{9, 31: 0xFF}}}
}

// chain: n below so many directories.
func chain(n api.Node, levels int) api.Node {
	n.Name = "z"
	for range levels {
		n = dir("z", 7, n)
	}
	n.Name = ""
	return n
}

// wide: a root with so many files.
func wide(count int) api.Node {
	n := dir("", 7)
	for i := range count {
		n.Kids = append(n.Kids, file(fmt.Sprintf("n%06d", i), i%9, i))
	}
	return n
}

// sample: each kind, modes known and unknown, marks on each side, both, none, the greatest numbers; the last node is the one that is told.
func sample(last api.Node) api.Node {
	last.Name = "\xff\xff"
	return dir("", 7,
		file("...", 6, 3),
		dir("a", 5,
			dir("b", api.Unknown),
			dir("c", 0, file("x", api.Unknown, 0, 1, 2, 0, 0), file("y", 0, api.MaxSize, 0, 0, 300, 4), link("z", 1)),
			file(strings.Repeat("n", api.MaxName), 8, 200, api.MaxStamp, 1, 1, api.MaxStamp),
		),
		file("a b", 1, 128, 128, 127, 16384, 16383),
		link("a.b", api.MaxTarget),
		dir(strings.Repeat("n", 128), 3),
		last,
	)
}

// samples: the sample with each kind as its last node, and the least and the deepest trees.
func samples() map[string]api.Node {
	return map[string]api.Node{
		"the root alone":           dir("", 7),
		"the root alone, mode 0":   dir("", 0),
		"the root alone, unknown":  dir("", api.Unknown),
		"one file":                 dir("", 7, file("f", 6, 300, 4, 200, 0, 0)),
		"one link":                 dir("", 8, link("l", 3)),
		"the last a file":          sample(file("", 4, 77, 9, 10, 11, 12)),
		"the last without marks":   sample(file("", 4, 77)),
		"the last a link":          sample(link("", 200)),
		"the last a directory":     sample(dir("", 2)),
		"the last with a child":    sample(dir("", 2, dir("q", 1, file("r", 7, 1, 0, 0, 5, 5)))),
		"as deep as may be":        chain(file("", 6, 1, 1, 1, 1, 1), api.MaxDepth),
		"as deep, a directory":     chain(dir("", 6), api.MaxDepth),
		"many children":            wide(130),
		"directories of one child": dir("", 7, dir("a", 1, dir("a", 2, dir("a", 3))), dir("b", 4, dir("b", 5))),
	}
}

func of(t testing.TB, n api.Node) *tree.Tree {
	t.Helper()
	x, e := tree.Of(n)
	if e != api.OK {
		t.Fatalf("tree.Of: %d", e)
	}
	return x
}

// projected: what a version keeps of a tree.
func projected(n api.Node, version int) api.Node {
	if version < 3 {
		n.Marks = [2]api.Mark{}
	}
	if version < 2 && n.Value.Kind != api.Link {
		n.Value.Mode = api.Unknown
	}
	kids := slices.Clone(n.Kids)
	for i := range kids {
		kids[i] = projected(kids[i], version)
	}
	n.Kids = kids
	return n
}

func number(n uint64) []byte { return binary.AppendUvarint(nil, n) }

func text(s string) []byte { return append(number(uint64(len(s))), s...) }

func shaOf(parts ...[]byte) []byte {
	s := sha256.Sum256(slices.Concat(parts...))
	return s[:]
}

// hashOf: layer 5's hash.
func hashOf(n api.Node) []byte {
	v := n.Value
	mode, size := number(uint64(v.Mode)), number(uint64(v.Size))
	switch v.Kind {
	case api.File:
		return shaOf([]byte("F"), mode, size, v.Sum[:])
	case api.Link:
		return shaOf([]byte("L"), size, v.Sum[:])
	}
	return shaOf([]byte("D"), mode, number(uint64(len(n.Kids))), topOf(n.Kids))
}

func topOf(kids []api.Node) []byte {
	switch len(kids) {
	case 0:
		return make([]byte, 32)
	case 1:
		return shaOf([]byte("N"), text(kids[0].Name), hashOf(kids[0]))
	}
	k := 1
	for k*2 < len(kids) {
		k *= 2
	}
	return shaOf([]byte("I"), topOf(kids[:k]), topOf(kids[k:]))
}

// item: a part of a file between the version and the sum.
type item struct {
	what string
	path string // of the node that it is of
	kind int    // of that node
	b    []byte
}

// itemsOf: those of a tree, whatever it is; n is what the version keeps.
func itemsOf(n api.Node, version int) []item {
	return append([]item{{what: "nodes", b: number(uint64(countOf(n)))}}, nodeItems(n, "", version)...)
}

func countOf(n api.Node) int {
	c := 1
	for _, k := range n.Kids {
		c += countOf(k)
	}
	return c
}

func nodeItems(n api.Node, p string, version int) []item {
	var l []item
	v := n.Value
	add := func(what string, b []byte) { l = append(l, item{what, p, v.Kind, b}) }
	add("kind", []byte{byte(v.Kind)})
	if p != "" {
		add("name", text(n.Name))
	}
	if v.Kind != api.Dir {
		add("size", number(uint64(v.Size)))
		add("digest", v.Sum[:])
	}
	if version >= 2 && v.Kind != api.Link {
		add("mode", []byte{byte(v.Mode)})
	}
	if version == 3 && v.Kind == api.File {
		for _, m := range n.Marks {
			add("number", number(uint64(m.Number)))
			add("stamp", number(uint64(m.Stamp)))
		}
	}
	if v.Kind == api.Dir {
		add("children", number(uint64(len(n.Kids))))
		add("hash", hashOf(n))
		for _, k := range n.Kids {
			l = append(l, nodeItems(k, below(p, k.Name), version)...)
		}
	}
	return l
}

func below(p, name string) string {
	if p == "" {
		return name
	}
	return p + "/" + name
}

// sealed: bytes with their sum behind them.
func sealed(b []byte) []byte {
	return binary.LittleEndian.AppendUint32(bytes.Clone(b), crc32.ChecksumIEEE(b))
}

// unsealed: a file's bytes ahead of the sum.
func unsealed(b []byte) []byte { return bytes.Clone(b[:len(b)-4]) }

func head(version int) []byte {
	return append([]byte{0x74, 0x77, 0x6E, 0x65}, number(uint64(version))...)
}

// laid: the file of items.
func laid(version int, l []item) []byte { return sealed(append(head(version), joined(l)...)) }

func joined(l []item) []byte {
	var b []byte
	for _, x := range l {
		b = append(b, x.b...)
	}
	return b
}

// placeOf: the first byte of an item.
func placeOf(l []item, i int) int { return 5 + len(joined(l[:i])) }

// with: the items with other bytes for one of them.
func with(l []item, i int, b []byte) []item {
	l = slices.Clone(l)
	l[i].b = b
	return l
}

// find: the item of a node.
func find(t testing.TB, l []item, what, path string) int {
	t.Helper()
	i := slices.IndexFunc(l, func(x item) bool { return x.what == what && x.path == path })
	if i < 0 {
		t.Fatalf("no %s of %q", what, path)
	}
	return i
}

// taken looks that Decode takes bytes as a tree and a version.
func taken(t testing.TB, what string, b []byte, most int, n api.Node, version int) {
	t.Helper()
	x, v, err := Decode(b, most)
	if err != nil || x == nil || v != version {
		t.Errorf("%s: version %d, %v, want version %d", what, v, err, version)
		return
	}
	if !reflect.DeepEqual(x.Node(), of(t, n).Node()) {
		t.Errorf("%s: another tree", what)
	}
}

// hexed: bytes that are written out only where they are told.
type hexed []byte

func (h hexed) String() string { return fmt.Sprintf("% X", []byte(h)) }

// refused looks that Decode refuses bytes by a fault.
func refused(t testing.TB, what any, b []byte, most int, want api.Fault) {
	t.Helper()
	x, v, err := Decode(b, most)
	if x != nil || v != 0 {
		t.Errorf("%s: a tree or a version %d beside an error", what, v)
	}
	f, ok := err.(*api.Fault)
	if !ok || f == nil {
		t.Errorf("%s: %v, want %+v", what, err, want)
		return
	}
	if *f != want || !errors.Is(err, want.Err) {
		t.Errorf("%s: %+v, want %+v", what, *f, want)
	}
}

// turned: bytes with some bits of one of them turned.
func turned(b []byte, at int, bits byte) []byte {
	b = bytes.Clone(b)
	b[at] ^= bits
	return b
}
