package merkle

import (
	"crypto/sha256"
	"encoding/binary"
	"fmt"
	"slices"
	"strings"
	"testing"

	"twine/api"
	"twine/tree"
)

// This file: plain trees and sums, and what the chapter says of them, reckoned as plainly as it can be from raw data.

func dir(name string, mode int, kids ...api.Node) api.Node {
	return api.Node{Name: name, Value: api.Value{Kind: api.Dir, Mode: mode}, Kids: kids}
}

func file(name string, size int) api.Node {
	return api.Node{Name: name, Value: api.Value{Kind: api.File, Mode: 6, Size: size, Sum: [32]byte{byte(size), 31: 1}}}
}

func link(name string, size int) api.Node {
	return api.Node{Name: name, Value: api.Value{Kind: api.Link, Size: size, Sum: [32]byte{9}}}
}

// wide: a root with so many files, of unlike sizes; between two names there is room for another one.
func wide(count int) api.Node {
	n := dir("", 7)
	for i := range count {
		n.Kids = append(n.Kids, file(fmt.Sprintf("n%04d", i), i))
	}
	return n
}

// chain: n below so many directories.
func chain(n api.Node, levels int) api.Node {
	n.Name = "z"
	for range levels {
		n = dir("z", 7, n)
	}
	n.Name = ""
	return n
}

// sample: each kind, names in the order of bytes, and something deeper.
func sample() api.Node {
	return dir("", 7,
		file("a", 3),
		dir("a b", api.Unknown),
		link("a.b", 4),
		dir("d", 5, dir("d", 0, file("x", 0), file("y", api.MaxSize)), link("e", 1), file("\xff", 200)),
		file("z", 2),
	)
}

// samplePaths: the root, what is in the sample, and what isn't: with neighbours on both sides, on one, on none; behind a file and behind a link.
func samplePaths() []string {
	return []string{"", "a", "a b", "a.b", "d", "d/d", "d/d/x", "d/d/y", "d/e", "d/\xff", "z",
		"A", "a a", "aa", "zz", "a b/q", "a b/q/r", "d/a", "d/dd", "d/\xff\xff", "d/d/a", "d/d/xx", "d/d/z", "d/dd/x",
		"a/q", "a/q/r", "a.b/q", "d/d/x/y", "d/e/e/e", "z/z", strings.Repeat("q", api.MaxName), "d/" + strings.Repeat("d", api.MaxName)}
}

func of(t testing.TB, n api.Node) *tree.Tree {
	t.Helper()
	x, e := tree.Of(n)
	if e != api.OK {
		t.Fatalf("tree.Of: %d", e)
	}
	return x
}

// weak: a sum with so many bits alone.
func weak(bits int) func([]byte) [32]byte {
	return func(b []byte) [32]byte {
		s := sha256.Sum256(b)
		return [32]byte{s[0] & byte(1<<bits-1)}
	}
}

func zeros(b []byte) [32]byte { return [32]byte{} }

// lengths: a sum that tells the number of bytes alone.
func lengths(b []byte) [32]byte { return [32]byte{byte(len(b)), byte(len(b) >> 8), 31: 1} }

// merged: SHA-256, but that two texts have one sum.
func merged(one, other string) func([]byte) [32]byte {
	return func(b []byte) [32]byte {
		if string(b) == other {
			b = []byte(one)
		}
		return sha256.Sum256(b)
	}
}

func sums() map[string]func([]byte) [32]byte {
	return map[string]func([]byte) [32]byte{
		"SHA-256": sha256.Sum256, "zeros": zeros, "lengths": lengths,
		"1 bit": weak(1), "2 bits": weak(2), "3 bits": weak(3), "5 bits": weak(5),
	}
}

func uvar(s string, n int) string { return s + uvar64(uint64(n)) }

func uvar64(n uint64) string { return string(binary.AppendUvarint(nil, n)) }

func plainText(s string) string { return uvar("", len(s)) + s }

func plainHalf(n int) int {
	k := 1
	for k*2 < n {
		k *= 2
	}
	return k
}

// plain: a sum, and all texts that were summed by it.
type plain struct {
	by    func([]byte) [32]byte
	texts []string
}

func (p *plain) sum(text string) string {
	p.texts = append(p.texts, text)
	s := p.by([]byte(text))
	return string(s[:])
}

func (p *plain) own(v api.Value, count int, top string) string {
	switch v.Kind {
	case api.File:
		return p.sum(uvar(uvar("F", v.Mode), v.Size) + string(v.Sum[:]))
	case api.Link:
		return p.sum(uvar("L", v.Size) + string(v.Sum[:]))
	case api.Dir:
		return p.sum(uvar(uvar("D", v.Mode), count) + top)
	}
	panic("no kind")
}

func (p *plain) leaf(name, hash string) string { return p.sum("N" + plainText(name) + hash) }

// hashes: of the children, all texts of their subtrees.
func (p *plain) hashes(n api.Node) []string {
	var l []string
	for _, k := range n.Kids {
		l = append(l, p.hash(k))
	}
	return l
}

func (p *plain) hash(n api.Node) string {
	l := p.hashes(n)
	return p.own(n.Value, len(n.Kids), p.top(n.Kids, l))
}

func (p *plain) top(kids []api.Node, hashes []string) string {
	switch len(kids) {
	case 0:
		return strings.Repeat("\x00", 32)
	case 1:
		return p.leaf(kids[0].Name, hashes[0])
	}
	k := plainHalf(len(kids))
	a := p.top(kids[:k], hashes[:k])
	b := p.top(kids[k:], hashes[k:])
	return p.sum("I" + a + b)
}

// siblings: from the leaf upwards, one behind the other.
func (p *plain) siblings(kids []api.Node, hashes []string, i int) string {
	if len(kids) == 1 {
		return ""
	}
	k := plainHalf(len(kids))
	if i < k {
		return p.siblings(kids[:k], hashes[:k], i) + p.top(kids[k:], hashes[k:])
	}
	return p.siblings(kids[k:], hashes[k:], i-k) + p.top(kids[:k], hashes[:k])
}

// prove: what P5.5 says, as the numbers and texts of a proof.
func (p *plain) prove(n api.Node, names []string) told {
	var x told
	for _, name := range names {
		if n.Value.Kind != api.Dir {
			x.end, x.value = 4, n.Value
			return x
		}
		hashes := p.hashes(n)
		k := 0
		for k < len(n.Kids) && n.Kids[k].Name < name {
			k++
		}
		if k == len(n.Kids) || n.Kids[k].Name != name {
			x.end, x.mode, x.count, x.k = 3, n.Value.Mode, len(n.Kids), k
			for i := max(k-1, 0); i <= k && i < len(n.Kids); i++ {
				x.sides = append(x.sides, toldSide{n.Kids[i].Name, hashes[i], p.siblings(n.Kids, hashes, i)})
			}
			return x
		}
		x.steps = append(x.steps, toldStep{n.Value.Mode, len(n.Kids), k, p.siblings(n.Kids, hashes, k)})
		n = n.Kids[k]
	}
	x.end, x.value = 2, n.Value
	if n.Value.Kind == api.Dir {
		x.count, x.top = len(n.Kids), p.top(n.Kids, p.hashes(n))
	}
	return x
}

// told: a proof as numbers and texts.
type told struct {
	steps          []toldStep
	end            int
	mode, count, k int        // of the end 3; count of the end 2 too
	top            string     // of the end 2
	sides          []toldSide // of the end 3
	value          api.Value  // of the ends 2 (its Kind says whether a directory is told) and 4
}

type toldStep struct {
	mode, count, place int
	siblings           string
}

type toldSide struct{ name, hash, siblings string }

func (x told) bytes() []byte {
	s := ""
	for _, y := range x.steps {
		s = uvar(uvar(uvar(s+"\x01", y.mode), y.count), y.place) + y.siblings
	}
	s += string(rune(x.end))
	switch x.end {
	case 2:
		if x.value.Kind == api.Dir {
			s = uvar(s, x.count) + x.top
		}
	case 3:
		s = uvar(uvar(uvar(s, x.mode), x.count), x.k)
		for _, y := range x.sides {
			s += plainText(y.name) + y.hash + y.siblings
		}
	case 4:
		s = uvar(s, x.value.Kind)
		if x.value.Kind == api.File {
			s = uvar(s, x.value.Mode)
		}
		s = uvar(s, x.value.Size) + string(x.value.Sum[:])
	}
	return []byte(s)
}

// reckon: the hash that is reckoned from the proof for v (of the end 2), and whether there is one; p has the texts then.
func (p *plain) reckon(x told, names []string, v api.Value) (string, bool) {
	var h string
	switch x.end {
	case 2:
		h = p.own(v, x.count, x.top)
	case 3:
		top := strings.Repeat("\x00", 32)
		for i, y := range x.sides {
			place := x.k + i
			if x.k > 0 {
				place--
			}
			z, _ := p.rise(p.leaf(y.name, y.hash), x.count, place, y.siblings)
			if i > 0 && z != top {
				return "", false
			}
			top = z
		}
		h = p.own(api.Value{Kind: api.Dir, Mode: x.mode}, x.count, top)
	case 4:
		h = p.own(x.value, 0, "")
	}
	for i, y := range slices.Backward(x.steps) {
		top, _ := p.rise(p.leaf(names[i], h), y.count, y.place, y.siblings)
		h = p.own(api.Value{Kind: api.Dir, Mode: y.mode}, y.count, top)
	}
	return h, true
}

// rise takes the siblings from the front, and tells those that are left.
func (p *plain) rise(x string, count, place int, siblings string) (string, string) {
	if count == 1 {
		return x, siblings
	}
	k := plainHalf(count)
	if place < k {
		x, rest := p.rise(x, k, place, siblings)
		return p.sum("I" + x + rest[:32]), rest[32:]
	}
	x, rest := p.rise(x, count-k, place-k, siblings)
	return p.sum("I" + rest[:32] + x), rest[32:]
}

// namesOf: those of a path.
func namesOf(p string) []string {
	if p == "" {
		return nil
	}
	return strings.Split(p, "/")
}

// textsOf: what Texts gives, as texts.
func textsOf(m *Hasher, t *tree.Tree) []string {
	var l []string
	for b := range m.Texts(t) {
		l = append(l, string(b))
	}
	return l
}

// plainTexts: what it should give, and the hash.
func plainTexts(by func([]byte) [32]byte, n api.Node) ([]string, string) {
	p := plain{by: by}
	h := p.hash(n)
	return p.texts, h
}

// clashing: whether there are two unlike texts of one sum.
func clashing(by func([]byte) [32]byte, a, b []string) bool {
	for _, x := range a {
		for _, y := range b {
			if x != y && by([]byte(x)) == by([]byte(y)) {
				return true
			}
		}
	}
	return false
}

// isClash: whether these two are such ones.
func isClash(by func([]byte) [32]byte, a, b []string, x, y []byte) bool {
	return slices.Contains(a, string(x)) && slices.Contains(b, string(y)) && string(x) != string(y) && by(x) == by(y)
}

// small: trees of few nodes that are unlike in a mode, a kind, a name, a size, a place.
func small() []api.Node {
	kids := [][]api.Node{nil}
	for _, a := range []api.Node{file("a", 1), file("a", 2), link("a", 1), dir("a", 7), dir("a", 5), dir("a", 7, file("a", 1)), dir("a", 7, file("b", 1), link("c", 1))} {
		kids = append(kids, []api.Node{a}, []api.Node{a, file("b", 1)}, []api.Node{a, link("b", 2), file("c", 1)})
		a.Name = "b"
		kids = append(kids, []api.Node{a}, []api.Node{file("a", 1), a})
	}
	out := []api.Node{file("", 1), file("", 2), link("", 1), dir("", 5)}
	for _, l := range kids {
		out = append(out, dir("", 7, l...))
	}
	return out
}
