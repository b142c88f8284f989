package patch

import (
	"bytes"
	"crypto/sha256"
	"encoding/binary"
	"fmt"
	"hash/crc32"
	"math/rand"
	"reflect"
	"slices"
	"strings"
	"testing"

	"twine/api"
	"twine/path"
	"twine/tree"
)

// This file: trees to try, sums, and what a patch must tell of a tree, reckoned plainly, from raw data.

func dir(name string, mode int, kids ...api.Node) api.Node {
	return api.Node{Name: name, Value: api.Value{Kind: api.Dir, Mode: mode}, Kids: kids}
}

func file(name string, mode, size int, marks ...int) api.Node {
	n := api.Node{Name: name, Value: api.Value{Kind: api.File, Mode: mode, Size: size, Sum: [32]byte{byte(size), 7, 31: 1}}}
	if len(marks) > 0 {
		n.Marks = [2]api.Mark{{Number: marks[0], Stamp: marks[1]}, {Number: marks[2], Stamp: marks[3]}}
	}
	return n
}

func link(name string, size int) api.Node {
	return api.Node{Name: name, Value: api.Value{Kind: api.Link, Size: size, Sum: [32]byte{9, 31: 0xFF}}}
}

// chain: n below so many directories, each named z.
func chain(n api.Node, levels int) api.Node {
	for range levels {
		n.Name = "z"
		n = dir("", 5, n)
	}
	return n
}

// chained: the path of what is so many levels below.
func chained(levels int) string { return strings.TrimSuffix(strings.Repeat("z/", levels), "/") }

// wide: a directory with so many files.
func wide(count int) api.Node {
	n := dir("", 7)
	for i := range count {
		n.Kids = append(n.Kids, file(nameOf(i), i%9, i, 1+i, 2+i, 3+i, 4+i))
	}
	return n
}

func nameOf(i int) string { return fmt.Sprintf("n%06d", i) }

// four: the chapter's example.
func four() api.Node {
	return dir("", 7, file("a", 6, 1), file("b", 6, 1), file("c", 6, 1), file("d", 6, 1))
}

// some: each kind, modes known and unknown, marks on each side, the greatest numbers, numbers at the seam of one byte and two, an empty directory.
func some() api.Node {
	return dir("", 7,
		file("...", 6, 3),
		dir("a", 5,
			dir("b", api.Unknown),
			dir("c", 0, file("x", api.Unknown, 0, 1, 2, 0, 0), file("y", 0, api.MaxSize, 0, 0, 300, 4), link("z", 1)),
			file(strings.Repeat("n", api.MaxName), 8, 200, api.MaxStamp, 1, 1, api.MaxStamp),
		),
		file("a b", 1, 128, 128, 127, 16384, 16383),
		link("a.b", api.MaxTarget),
		dir("e", 7),
		file("\xff", 7, 127),
	)
}

// roots: trees that a patch may hold.
func roots() map[string]api.Node {
	l := map[string]api.Node{
		"four":                 four(),
		"some":                 some(),
		"the root alone":       dir("", 7),
		"the root, unknown":    dir("", api.Unknown),
		"one file":             dir("", 7, file("f", 6, 300, 4, 200, 5, 6)),
		"one link":             dir("", 8, link("l", 3)),
		"one empty directory":  dir("", 8, dir("d", 3)),
		"empty directories":    dir("", 7, dir("a", 0), dir("b", 7, dir("a", 8), dir("b", 3))),
		"deep, a file":         chain(file("", 6, 1, 1, 2, 3, 4), api.MaxDepth),
		"deep, a link":         chain(link("", 6), api.MaxDepth),
		"deep, a directory":    chain(dir("", 6), api.MaxDepth),
		"names of 127 and 128": dir("", 7, file(strings.Repeat("m", 127), 1, 2), dir(strings.Repeat("n", 128), 3)),
	}
	for _, n := range []int{1, 2, 3, 4, 5, 6, 7, 8, 9, 15, 16, 17, 31, 33, 127, 128, 130} {
		l[fmt.Sprint(n, " children")] = wide(n)
	}
	for i := range 40 {
		l[fmt.Sprint("random ", i)] = randomTree(rand.New(rand.NewSource(int64(i))), 30)
	}
	return l
}

// randomTree: a directory with at most so many nodes.
func randomTree(r *rand.Rand, most int) api.Node {
	left := r.Intn(most)
	return randomDir(r, &left, 0)
}

func randomDir(r *rand.Rand, left *int, depth int) api.Node {
	n := dir("", r.Intn(9))
	names := r.Perm(6)[:r.Intn(6)]
	slices.Sort(names)
	for _, i := range names {
		if *left <= 0 {
			break
		}
		*left--
		kid := randomThing(r, left, depth+1)
		kid.Name = string(rune('a' + i))
		n.Kids = append(n.Kids, kid)
	}
	return n
}

func randomThing(r *rand.Rand, left *int, depth int) api.Node {
	switch k := r.Intn(5); {
	case k < 2 && depth < 6:
		return randomDir(r, left, depth)
	case k == 2:
		return link("", 1+r.Intn(3))
	}
	if r.Intn(2) == 0 {
		return file("", r.Intn(9), r.Intn(3), 1+r.Intn(200), 1+r.Intn(200), 0, 0)
	}
	return file("", r.Intn(9), r.Intn(3))
}

func of(t *testing.T, n api.Node) *tree.Tree {
	t.Helper()
	x, e := tree.Of(n)
	if e != api.OK {
		t.Fatalf("no tree: %v", e)
	}
	return x
}

// A summer: a sum as a patch takes it.
type summer = func(b []byte) [32]byte

// sums: SHA-256, and such as tell few bits, so that unlike texts have one sum.
func sums() map[string]summer {
	return map[string]summer{
		"SHA-256": sha256.Sum256,
		"zeros":   func(b []byte) [32]byte { return [32]byte{} },
		"a bit":   func(b []byte) [32]byte { return [32]byte{7: byte(crc32.ChecksumIEEE(b) & 1)} },
		"two bits": func(b []byte) [32]byte {
			return [32]byte{0: byte(crc32.ChecksumIEEE(b) >> 9 & 3), 31: 0xEE}
		},
		"a byte":    func(b []byte) [32]byte { return [32]byte{sha256.Sum256(b)[3]} },
		"a length":  func(b []byte) [32]byte { return [32]byte{31: byte(len(b))} },
		"the first": func(b []byte) [32]byte { return [32]byte{b[0]} },
		"turned": func(b []byte) [32]byte {
			h := sha256.Sum256(b)
			for i := range h {
				h[i] = ^h[i]
			}
			return h
		},
	}
}

// plainHash: P5.1.
func plainHash(n api.Node, sum summer) [32]byte {
	v, b := n.Value, []byte{0, 'D', 'F', 'L'}[n.Value.Kind:][:1]
	if v.Kind != api.Link {
		b = binary.AppendUvarint(b, uint64(v.Mode))
	}
	if v.Kind != api.Dir {
		return sum(append(binary.AppendUvarint(b, uint64(v.Size)), v.Sum[:]...))
	}
	b = binary.AppendUvarint(b, uint64(len(n.Kids)))
	var top [32]byte
	if len(n.Kids) > 0 {
		top = plainTop(n.Kids, sum)
	}
	return sum(append(b, top[:]...))
}

// plainTop: P5.2.
func plainTop(kids []api.Node, sum summer) [32]byte {
	if len(kids) == 1 {
		h := plainHash(kids[0], sum)
		b := binary.AppendUvarint([]byte("N"), uint64(len(kids[0].Name)))
		return sum(append(append(b, kids[0].Name...), h[:]...))
	}
	k := 1
	for 2*k < len(kids) {
		k *= 2
	}
	one, other := plainTop(kids[:k], sum), plainTop(kids[k:], sum)
	return sum(slices.Concat([]byte("I"), one[:], other[:]))
}

// plainBytes: the archive's file, version 3, as DOC.md has it.
func plainBytes(n api.Node, sum summer) []byte {
	b := binary.AppendUvarint([]byte("twne\x03"), uint64(nodes(n)))
	b = plainNode(b, n, false, sum)
	return binary.LittleEndian.AppendUint32(b, crc32.ChecksumIEEE(b))
}

func plainNode(b []byte, n api.Node, named bool, sum summer) []byte {
	v := n.Value
	b = append(b, byte(v.Kind))
	if named {
		b = append(binary.AppendUvarint(b, uint64(len(n.Name))), n.Name...)
	}
	if v.Kind != api.Dir {
		b = append(binary.AppendUvarint(b, uint64(v.Size)), v.Sum[:]...)
	}
	if v.Kind != api.Link {
		b = append(b, byte(v.Mode))
	}
	if v.Kind == api.File {
		for _, m := range n.Marks {
			b = binary.AppendUvarint(binary.AppendUvarint(b, uint64(m.Number)), uint64(m.Stamp))
		}
	}
	if v.Kind == api.Dir {
		h := plainHash(n, sum)
		b = append(binary.AppendUvarint(b, uint64(len(n.Kids))), h[:]...)
		for _, kid := range n.Kids {
			b = plainNode(b, kid, true, sum)
		}
	}
	return b
}

func nodes(n api.Node) int {
	count := 1
	for _, kid := range n.Kids {
		count += nodes(kid)
	}
	return count
}

// texts: how many a tree has: one a thing, and of a directory's children a leaf each and what puts these together.
func texts(n api.Node) int {
	count := 1
	for _, kid := range n.Kids {
		count += texts(kid) + 1
	}
	return count + max(len(n.Kids)-1, 0)
}

// width: how many children a tree has at a path.
func width(t *tree.Tree, p string) int {
	d, _ := t.Sub(p)
	count := 0
	for range d.Children() {
		count++
	}
	return count
}

// halvings: how often n can be halved, rounded up, till it is 1.
func halvings(n int) int {
	count := 0
	for ; n > 1; n = (n + 1) / 2 {
		count++
	}
	return count
}

// room: how many calls of the sum P8.4 grants for a Replace with OK, which made one tree the other one.
func room(before, behind *tree.Tree, p string, s *tree.Tree) int {
	count := 0
	if s != nil {
		count = texts(s.Node())
	}
	if p == "" {
		return count
	}
	_, was := before.Sub(p)
	_, is := behind.Sub(p)
	above, _ := path.Above(p)
	if was && is {
		count += 2 + halvings(width(behind, above))
	} else {
		count += 2 + max(width(before, above), width(behind, above))
	}
	for above != "" {
		above, _ = path.Above(above)
		count += 2 + halvings(width(behind, above))
	}
	return count
}

// state: what a patch tells.
type state struct {
	node  api.Node
	bytes string
	root  [32]byte
}

func told(x *Patch) state { return state{x.Tree().Node(), string(x.Bytes()), x.Root()} }

// plainly: what a patch must tell that holds a tree.
func plainly(t *tree.Tree, sum summer) state {
	n := t.Node()
	return state{n, string(plainBytes(n, sum)), plainHash(n, sum)}
}

// alike: do two states agree? What doesn't is told.
func alike(t *testing.T, what string, got, want state) bool {
	t.Helper()
	switch {
	case !reflect.DeepEqual(got.node, want.node):
		t.Errorf("%s: another tree: %v, want %v", what, got.node, want.node)
	case got.root != want.root:
		t.Errorf("%s: another root: %x, want %x", what, got.root, want.root)
	case got.bytes != want.bytes:
		t.Errorf("%s: other bytes:\n%x\nwant\n%x", what, got.bytes, want.bytes)
	default:
		return true
	}
	return false
}

// made: a patch of raw data.
func made(t *testing.T, n api.Node, most int, sum summer) *Patch {
	t.Helper()
	x, e := New(of(t, n), most, sum)
	if x == nil || e != api.OK {
		t.Fatalf("New: %v", e)
	}
	return x
}

// fill overwrites bytes, and the room behind them.
func fill(b []byte) {
	copy(b[:cap(b)], bytes.Repeat([]byte{0x5A}, cap(b)))
}
