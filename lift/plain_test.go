package lift

import (
	"bytes"
	"encoding/binary"
	"fmt"
	"hash/crc32"
	"math/rand"
	"reflect"
	"slices"
	"strings"
	"testing"

	"twine/api"
	"twine/codec"
	"twine/tree"
)

// This file: trees to try as raw data, what a version keeps of them, and files.

func dir(name string, mode int, kids ...api.Node) api.Node {
	return api.Node{Name: name, Value: api.Value{Kind: api.Dir, Mode: mode}, Kids: kids}
}

func file(name string, mode, size int, marks ...int) api.Node {
	n := api.Node{Name: name, Value: api.Value{Kind: api.File, Mode: mode, Size: size, Sum: [32]byte{byte(size), 7, 31: 1}}}
	if len(marks) > 0 {
		n.Marks = [2]api.Mark{{Number: marks[0], Stamp: marks[1]}, {Number: marks[2], Stamp: marks[3]}}
	}
	return n
}

func link(name string, size int) api.Node {
	return api.Node{Name: name, Value: api.Value{Kind: api.Link, Size: size, Sum: [32]byte{9, 31: 0xFF}}}
}

// chain: n below so many directories.
func chain(n api.Node, levels int) api.Node {
	n.Name = "z"
	for range levels {
		n = dir("z", 5, n)
	}
	n.Name = ""
	return n
}

// wide: a root with so many files.
func wide(count int) api.Node {
	n := dir("", 7)
	for i := range count {
		n.Kids = append(n.Kids, file(fmt.Sprintf("n%06d", i), i%9, i, 1+i, 2+i, 3+i, 4+i))
	}
	return n
}

// some: each kind, modes known and unknown, marks on each side, on both, on none, the greatest numbers, an empty directory.
func some() api.Node {
	return dir("", 7,
		file("...", 6, 3),
		dir("a", 5,
			dir("b", api.Unknown),
			dir("c", 0, file("x", api.Unknown, 0, 1, 2, 0, 0), file("y", 0, api.MaxSize, 0, 0, 300, 4), link("z", 1)),
			file(strings.Repeat("n", api.MaxName), 8, 200, api.MaxStamp, 1, 1, api.MaxStamp),
		),
		file("a b", 1, 128, 128, 127, 16384, 16383),
		link("a.b", api.MaxTarget),
		dir("e", 7),
		file("\xff", 7, 1),
	)
}

// archives: trees that a file may hold.
func archives() map[string]api.Node {
	l := map[string]api.Node{
		"some":                 some(),
		"the root alone":       dir("", 7),
		"the root, unknown":    dir("", api.Unknown),
		"one file, both marks": dir("", 7, file("f", 6, 300, 4, 200, 5, 6)),
		"one file, mark of A":  dir("", 0, file("f", 0, 0, 4, 200, 0, 0)),
		"one file, mark of B":  dir("", 1, file("f", 7, 1, 0, 0, 1, 1)),
		"one file, no mark":    dir("", 8, file("f", 8, 1)),
		"one link":             dir("", 8, link("l", 3)),
		"empty directories":    dir("", 7, dir("a", 0), dir("b", 7, dir("a", 8), dir("b", 3))),
		"deep, a file":         chain(file("", 6, 1, 1, 2, 3, 4), api.MaxDepth),
		"deep, a link":         chain(link("", 6), api.MaxDepth),
		"deep, a directory":    chain(dir("", 6), api.MaxDepth),
		"many children":        wide(130),
	}
	for mode := range api.Unknown + 1 {
		l[fmt.Sprint("mode ", mode)] = dir("", mode, dir("d", mode, file("f", mode, 9, 8, 7, 6, 5)), file("f", mode, 9), link("l", 9))
	}
	for i := range 60 {
		l[fmt.Sprint("random ", i)] = randomTree(rand.New(rand.NewSource(int64(i))), 25)
	}
	return l
}

// trees: these, and trees whose root is no directory.
func trees() map[string]api.Node {
	l := archives()
	l["a file, both marks"] = file("", 6, 5, 4, 3, 2, 1)
	l["a file, mark of A"] = file("", 6, 5, 4, 3, 0, 0)
	l["a file, mark of B"] = file("", 6, 5, 0, 0, 2, 1)
	l["a file, unknown, both marks"] = file("", api.Unknown, api.MaxSize, 4, 3, 2, 1)
	l["a file, no mark"] = file("", 0, 0)
	l["a link"] = link("", 5)
	return l
}

// randomTree: a tree of at most so many nodes, its root a directory.
func randomTree(r *rand.Rand, most int) api.Node {
	left := 1 + r.Intn(most)
	n := randomDir(r, &left)
	n.Name = ""
	return n
}

func randomDir(r *rand.Rand, left *int) api.Node {
	*left--
	n := dir("", r.Intn(9))
	for c := byte('a'); *left > 0 && r.Intn(5) > 0; c++ {
		kid := randomDirOrLeaf(r, left)
		kid.Name = strings.Repeat(string(c), 1+r.Intn(3))
		n.Kids = append(n.Kids, kid)
	}
	return n
}

func randomDirOrLeaf(r *rand.Rand, left *int) api.Node {
	mark := func() (int, int) { return 1 + r.Intn(1<<r.Intn(56)), 1 + r.Intn(1<<r.Intn(56)) }
	switch r.Intn(5) {
	case 0, 1:
		return randomDir(r, left)
	case 2:
		*left--
		return link("", 1+r.Intn(api.MaxTarget))
	}
	*left--
	n := file("", r.Intn(9), r.Intn(1<<r.Intn(40)))
	for i := range n.Marks {
		if r.Intn(3) > 0 {
			n.Marks[i].Number, n.Marks[i].Stamp = mark()
		}
	}
	r.Read(n.Value.Sum[:])
	return n
}

func of(t testing.TB, n api.Node) *tree.Tree {
	t.Helper()
	x, e := tree.Of(n)
	if e != api.OK {
		t.Fatalf("tree.Of: %d", e)
	}
	return x
}

// kept: what a version keeps of raw data, by P7.1's words.
func kept(n api.Node, version int) api.Node {
	switch version {
	case 1:
		if n.Value.Kind == api.Dir || n.Value.Kind == api.File {
			n.Value.Mode = 8
		}
		n.Marks = [2]api.Mark{}
	case 2:
		n.Marks = [2]api.Mark{}
	}
	n.Kids = slices.Clone(n.Kids)
	for i := range n.Kids {
		n.Kids[i] = kept(n.Kids[i], version)
	}
	return n
}

// isTree looks that x is the tree of n, marks too.
func isTree(t testing.TB, what string, x *tree.Tree, n api.Node) {
	t.Helper()
	if x == nil {
		t.Errorf("%s: no tree", what)
		return
	}
	if !reflect.DeepEqual(x.Node(), of(t, n).Node()) {
		t.Errorf("%s: another tree", what)
	}
}

func countOf(n api.Node) int {
	c := 1
	for _, k := range n.Kids {
		c += countOf(k)
	}
	return c
}

// fileOf: a tree's file in a version.
func fileOf(t testing.TB, n api.Node, version int) []byte {
	t.Helper()
	b, e := codec.Encode(of(t, n), version, api.MaxNodes)
	if e != api.OK {
		t.Fatalf("Encode: %d", e)
	}
	return b
}

// sealed: bytes with their sum behind them.
func sealed(b []byte) []byte {
	return binary.LittleEndian.AppendUint32(bytes.Clone(b), crc32.ChecksumIEEE(b))
}

// unsealed: a file's bytes ahead of the sum.
func unsealed(b []byte) []byte { return bytes.Clone(b[:len(b)-4]) }

// turned: bytes with some bits of one of them turned.
func turned(b []byte, at int, bits byte) []byte {
	b = bytes.Clone(b)
	b[at] ^= bits
	return b
}

// refused looks that Migrate refuses bytes by a fault, and answers no bytes.
func refused(t testing.TB, what string, b []byte, to, most int, want api.Fault) {
	t.Helper()
	got, err := Migrate(b, to, most)
	if got != nil {
		t.Errorf("%s: %d bytes beside an error", what, len(got))
	}
	f, ok := err.(*api.Fault)
	if !ok || f == nil {
		t.Errorf("%s: %v, want %+v", what, err, want)
		return
	}
	if *f != want {
		t.Errorf("%s: %+v, want %+v", what, *f, want)
	}
}

// migrated: what Migrate answers of bytes that it is to take.
func migrated(t testing.TB, what string, b []byte, to, most int) []byte {
	t.Helper()
	got, err := Migrate(b, to, most)
	if err != nil {
		t.Errorf("%s: %v", what, err)
	}
	return got
}
