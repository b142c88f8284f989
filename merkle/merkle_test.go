package merkle

import (
	"crypto/sha256"
	"iter"
	"slices"
	"strings"
	"testing"

	"twine/api"
	"twine/tree"
)

func TestP5_Example1(t *testing.T) {
	m, x := By(nil), of(t, dir("", 7))
	text := "D\x07\x00" + strings.Repeat("\x00", 32)
	if l := textsOf(m, x); !slices.Equal(l, []string{text}) {
		t.Errorf("texts: %q", l)
	}
	if m.Root(x) != sha256.Sum256([]byte(text)) {
		t.Error("another hash")
	}
	for p, want := range map[string]string{"": "\x02\x00" + strings.Repeat("\x00", 32), "a": "\x03\x07\x00\x00"} {
		if b, e := m.Prove(x, p); e != api.OK || string(b) != want {
			t.Errorf("Prove(%q): %q, %d", p, b, e)
		}
	}
}

func TestP5_Example2(t *testing.T) {
	m, a := By(nil), file("a", 1)
	x, d := of(t, dir("", 7, a)), string(a.Value.Sum[:])
	first := sha256.Sum256([]byte("F\x06\x01" + d))
	leaf := sha256.Sum256([]byte("N\x01a" + string(first[:])))
	if l := textsOf(m, x); !slices.Equal(l, []string{"F\x06\x01" + d, "N\x01a" + string(first[:]), "D\x07\x01" + string(leaf[:])}) {
		t.Errorf("texts: %q", l)
	}
	for p, want := range map[string]string{"a": "\x01\x07\x01\x00\x02", "a/b": "\x01\x07\x01\x00\x04\x02\x06\x01" + d, "b": "\x03\x07\x01\x01\x01a" + string(first[:])} {
		if b, e := m.Prove(x, p); e != api.OK || string(b) != want {
			t.Errorf("Prove(%q): %q, %d", p, b, e)
		}
	}
}

func TestP5_Example3(t *testing.T) {
	m := By(zeros)
	for _, n := range small() {
		x := of(t, n)
		if m.Root(x) != [32]byte{} {
			t.Errorf("%v: another hash", n)
		}
		u := of(t, dir("", 3))
		if a, b, ok := m.Clash(x, u); !ok || !isClash(zeros, textsOf(m, x), textsOf(m, u), a, b) {
			t.Errorf("%v: %q, %q, %v", n, a, b, ok)
		}
	}
}

func TestP5_ByNil(t *testing.T) {
	x, m, u := of(t, sample()), By(nil), By(sha256.Sum256)
	if m.Root(x) != u.Root(x) || !slices.Equal(textsOf(m, x), textsOf(u, x)) {
		t.Error("nil isn't SHA-256")
	}
	b, _ := m.Prove(x, "d/d/x")
	v, _ := x.At("d/d/x")
	if c, _ := u.Prove(x, "d/d/x"); string(b) != string(c) || !u.Holds(m.Root(x), "d/d/x", v, b) || !m.Holds(u.Root(x), "d/d/x", v, b) {
		t.Error("nil isn't SHA-256 in proofs")
	}
}

func TestP5_1OwnTexts(t *testing.T) {
	sum := [32]byte{1, 2, 30: 3, 31: 4}
	s := string(sum[:])
	for want, v := range map[string]api.Value{
		"F\x00\x00" + s:                          {Kind: api.File, Sum: sum},
		"F\x08\x80\x01" + s:                      {Kind: api.File, Mode: api.Unknown, Size: 128, Sum: sum},
		"F\x07\xff\xff\xff\xff\xff\x1f" + s:      {Kind: api.File, Mode: 7, Size: api.MaxSize, Sum: sum},
		"L\x01" + s:                              {Kind: api.Link, Size: 1, Sum: sum},
		"L\xff\x1f" + s:                          {Kind: api.Link, Size: api.MaxTarget, Sum: sum},
		"D\x00\x00" + strings.Repeat("\x00", 32): {Kind: api.Dir},
		"D\x08\x00" + strings.Repeat("\x00", 32): {Kind: api.Dir, Mode: api.Unknown},
	} {
		m, x := By(nil), of(t, api.Node{Value: v})
		if l := textsOf(m, x); !slices.Equal(l, []string{want}) || m.Root(x) != sha256.Sum256([]byte(want)) {
			t.Errorf("%v: %q", v, l)
		}
	}
}

func TestP5_1CountInItsOneForm(t *testing.T) {
	for n, want := range map[int]string{1: "D\x07\x01", 127: "D\x07\x7f", 128: "D\x07\x80\x01", 300: "D\x07\xac\x02"} {
		l := textsOf(By(nil), of(t, wide(n)))
		if got := l[len(l)-1]; len(got) != len(want)+32 || !strings.HasPrefix(got, want) {
			t.Errorf("%d children: %q", n, got)
		}
	}
}

func TestP5_2LongNames(t *testing.T) {
	for _, n := range []int{1, 127, 128, 255} {
		name := strings.Repeat("q", n)
		l, p := textsOf(By(nil), of(t, dir("", 7, file(name, 1)))), plain{by: sha256.Sum256}
		if want := "N" + plainText(name) + p.hash(file(name, 1)); l[1] != want {
			t.Errorf("%d bytes: %q", n, l[1])
		}
	}
}

// Written out for five children, so that it isn't the plain reckoning alone that says what k is.
func TestP5_2FiveChildren(t *testing.T) {
	p, n := plain{by: sha256.Sum256}, wide(5)
	var l []string
	for _, k := range n.Kids {
		l = append(l, p.leaf(k.Name, p.hash(k)))
	}
	four := p.sum("I" + p.sum("I"+l[0]+l[1]) + p.sum("I"+l[2]+l[3]))
	h := p.sum("D\x07\x05" + p.sum("I"+four+l[4]))
	if got := By(nil).Root(of(t, n)); string(got[:]) != h {
		t.Errorf("%x", got)
	}
}

func TestP5_2ManyChildren(t *testing.T) {
	for _, n := range []int{1, 2, 3, 4, 5, 6, 7, 8, 9, 15, 16, 17, 31, 33, 100, 127, 128, 129, 255, 1000, 1024, 1025, 4097} {
		texts, h := plainTexts(sha256.Sum256, wide(n))
		m, x := By(nil), of(t, wide(n))
		if got := m.Root(x); string(got[:]) != h {
			t.Errorf("%d children: another hash", n)
		}
		if !slices.Equal(textsOf(m, x), texts) {
			t.Errorf("%d children: other texts", n)
		}
		if len(texts) != 3*n {
			t.Errorf("%d children: %d texts", n, len(texts))
		}
	}
}

func TestP5_2MarksStandInNoText(t *testing.T) {
	n := dir("", 7, file("a", 1), dir("d", 7, file("a", 1)))
	u := dir("", 7, file("a", 1), dir("d", 7, file("a", 1)))
	u.Kids[0].Marks = [2]api.Mark{{Number: 3, Stamp: 4}, {Number: 5, Stamp: 6}}
	u.Kids[1].Kids[0].Marks[1] = api.Mark{Number: api.MaxStamp, Stamp: api.MaxStamp}
	for name, by := range sums() {
		m, x, y := By(by), of(t, n), of(t, u)
		if m.Root(x) != m.Root(y) || !slices.Equal(textsOf(m, x), textsOf(m, y)) {
			t.Errorf("%s: marks show", name)
		}
		b, _ := m.Prove(x, "d/a")
		if c, _ := m.Prove(y, "d/a"); string(b) != string(c) {
			t.Errorf("%s: marks show in a proof", name)
		}
	}
}

func TestP5_3OrderOfTexts(t *testing.T) {
	for name, by := range sums() {
		for _, n := range append(small(), sample(), chain(sample(), 61), wide(9)) {
			texts, h := plainTexts(by, n)
			m, x := By(by), of(t, n)
			if l := textsOf(m, x); !slices.Equal(l, texts) {
				t.Errorf("%s: %.80q, not %.80q", name, l, texts)
			}
			if got := m.Root(x); string(got[:]) != h {
				t.Errorf("%s: another hash", name)
			}
		}
	}
}

// A directory's children come whole, child by child, ahead of the first leaf.
func TestP5_3WrittenOut(t *testing.T) {
	var kinds strings.Builder
	for b := range By(nil).Texts(of(t, dir("", 7, dir("a", 7, file("x", 1), file("y", 1)), link("b", 1), dir("c", 7)))) {
		kinds.WriteByte(b[0])
	}
	if kinds.String() != "FFNNIDLDNNINID" {
		t.Errorf("%s", kinds.String())
	}
}

func TestP5_3LeftAndGoneThroughAgain(t *testing.T) {
	m := By(nil)
	x := of(t, sample())
	seq, all := m.Texts(x), textsOf(m, x)
	for stop := range all {
		var l []string
		for b := range seq {
			l = append(l, string(b))
			if len(l) == stop+1 {
				break
			}
		}
		if !slices.Equal(l, all[:stop+1]) {
			t.Errorf("left behind %d: %q", stop, l)
		}
	}
	var l []string
	for b := range seq {
		l = append(l, string(b))
		if len(l) < 4 && !slices.Equal(slices.Collect(texts(seq)), all) {
			t.Error("gone through while it is gone through")
		}
	}
	if !slices.Equal(l, all) {
		t.Errorf("%q", l)
	}
}

func texts(seq iter.Seq[[]byte]) iter.Seq[string] {
	return func(yield func(string) bool) {
		for b := range seq {
			if !yield(string(b)) {
				return
			}
		}
	}
}

// Root sums just the texts, so that whoever has the sum has seen them.
func TestP5_3WhatIsSummed(t *testing.T) {
	for _, n := range append(small(), sample(), wide(7)) {
		seen := map[string]int{}
		m := By(func(b []byte) [32]byte { seen[string(b)]++; return sha256.Sum256(b) })
		m.Root(of(t, n))
		want, _ := plainTexts(sha256.Sum256, n)
		if len(seen) != len(slices.Compact(slices.Sorted(slices.Values(want)))) {
			t.Errorf("%d texts, not %d", len(seen), len(want))
		}
		for _, x := range want {
			if seen[x] == 0 {
				t.Errorf("%q isn't summed", x)
			}
		}
	}
}

func TestP5_4NothingToTell(t *testing.T) {
	m := By(nil)
	for _, n := range small() {
		for _, u := range small() {
			if a, b, ok := m.Clash(of(t, n), of(t, u)); ok || a != nil || b != nil {
				t.Errorf("%v, %v: %q, %q, %v", n, u, a, b, ok)
			}
		}
	}
}

func TestP5_4ClashIsAllOfIt(t *testing.T) {
	for name, by := range sums() {
		m := By(by)
		for _, n := range small() {
			l, _ := plainTexts(by, n)
			for _, u := range small() {
				k, _ := plainTexts(by, u)
				a, b, ok := m.Clash(of(t, n), of(t, u))
				if ok != clashing(by, l, k) {
					t.Fatalf("%s: %v, %v: %v", name, n, u, ok)
				}
				if ok && !isClash(by, l, k, a, b) || !ok && (a != nil || b != nil) {
					t.Fatalf("%s: %v, %v: %q, %q", name, n, u, a, b)
				}
			}
		}
	}
}

// One text of t and an unlike one of u have one sum, all else by SHA-256; each text of each sort has its turn.
func TestP5_4TwoTextsAlone(t *testing.T) {
	x := dir("", 7, file("a", 1), link("b", 1), dir("c", 7))
	u := dir("", 7, file("a", 2), link("b", 2), dir("c", 5))
	a, _ := plainTexts(sha256.Sum256, x)
	b, _ := plainTexts(sha256.Sum256, u)
	for _, one := range a {
		for _, other := range b {
			by := merged(one, other)
			m := By(by)
			l, _ := plainTexts(by, x)
			k, _ := plainTexts(by, u)
			for _, swap := range []bool{false, true} {
				t1, t2, l1, l2 := of(t, x), of(t, u), l, k
				if swap {
					t1, t2, l1, l2 = t2, t1, l2, l1
				}
				p, q, ok := m.Clash(t1, t2)
				if ok != clashing(by, l1, l2) || ok && !isClash(by, l1, l2, p, q) {
					t.Fatalf("%q and %q: %q, %q, %v", one, other, p, q, ok)
				}
			}
		}
	}
}

// The unlike text of one tree may stand behind another one of the same sum, which is like u's.
func TestP5_4WithinOneTree(t *testing.T) {
	n := dir("", 7, file("a", 1), file("b", 2))
	l, _ := plainTexts(sha256.Sum256, n)
	by := merged(l[0], l[1])
	l, _ = plainTexts(by, n)
	m, x := By(by), of(t, n)
	if a, b, ok := m.Clash(x, x); !ok || !isClash(by, l, l, a, b) {
		t.Errorf("with itself: %q, %q, %v", a, b, ok)
	}
	for _, u := range []api.Node{file("", 1), file("", 2)} {
		y := of(t, u)
		k, _ := plainTexts(by, u)
		if a, b, ok := m.Clash(x, y); !ok || !isClash(by, l, k, a, b) {
			t.Errorf("%v: %q, %q, %v", u, a, b, ok)
		}
		if a, b, ok := m.Clash(y, x); !ok || !isClash(by, k, l, a, b) {
			t.Errorf("%v, the other way: %q, %q, %v", u, a, b, ok)
		}
	}
}

func TestP5_9SameTreesHaveOneHash(t *testing.T) {
	for name, by := range sums() {
		m := By(by)
		for _, n := range append(small(), sample(), wide(9)) {
			x := of(t, n)
			y := of(t, dir("", 1))
			if n.Value.Kind == api.Dir { // the same tree, put together in another order
				y = of(t, api.Node{Value: n.Value})
				for _, k := range slices.Backward(n.Kids) {
					y, _ = y.Put(k.Name, of(t, k))
				}
			} else {
				y = of(t, n)
			}
			if !tree.Same(x, y, false) || m.Root(x) != m.Root(y) {
				t.Errorf("%s: %v: two hashes", name, n)
			}
		}
	}
}

func TestP5_9UnlikeTreesOfOneHashClash(t *testing.T) {
	for name, by := range sums() {
		m, met := By(by), 0
		for _, n := range small() {
			for _, u := range small() {
				x, y := of(t, n), of(t, u)
				if m.Root(x) != m.Root(y) || tree.Same(x, y, false) {
					continue
				}
				met++
				if a, b, ok := m.Clash(x, y); !ok || !isClash(by, textsOf(m, x), textsOf(m, y), a, b) {
					t.Fatalf("%s: %v, %v: %q, %q, %v", name, n, u, a, b, ok)
				}
			}
		}
		if (met > 0) == (name == "SHA-256") {
			t.Errorf("%s: %d pairs of one hash", name, met)
		}
	}
}

// A subtree that is put at several places is one there as often as it stands there.
func TestP5_3OneSubtreeAtTwoPlaces(t *testing.T) {
	d, n := dir("", 7, file("x", 1), dir("y", 5)), dir("", 7)
	x, y := of(t, n), of(t, d)
	for _, name := range []string{"a", "b", "c"} {
		x, _ = x.Put(name, y)
		d.Name = name
		n.Kids = append(n.Kids, d)
	}
	for name, by := range sums() {
		want, h := plainTexts(by, n)
		root := By(by).Root(x)
		if l := textsOf(By(by), x); !slices.Equal(l, want) || string(root[:]) != h {
			t.Errorf("%s: %d texts, not %d", name, len(l), len(want))
		}
	}
}

// A subtree that stands at more places than can be gone to: the calls end nonetheless.
func TestP5_3OneSubtreeAtManyPlaces(t *testing.T) {
	x := of(t, file("", 1))
	y := x
	h := func(name string, s string) string { p := plain{by: sha256.Sum256}; return p.leaf(name, s) }
	p := plain{by: sha256.Sum256}
	want := p.hash(file("", 1))
	for range api.MaxDepth {
		d := of(t, dir("", 7))
		d, _ = d.Put("a", y)
		d, _ = d.Put("b", y)
		y = d
		want = p.sum("D\x07\x02" + p.sum("I"+h("a", want)+h("b", want)))
	}
	m := By(nil)
	root := m.Root(y)
	if string(root[:]) != want {
		t.Error("another hash")
	}
	if _, _, ok := m.Clash(y, y); ok {
		t.Error("Clash tells something")
	}
	for _, way := range []string{strings.Repeat("a/", 63) + "b", "a/b/c", "b", ""} {
		v, _ := y.At(way)
		b, e := m.Prove(y, way)
		if e != api.OK || !m.Holds(root, way, v, b) {
			t.Errorf("%q: no proof that holds", way)
		}
		if _, _, ok := m.Forged(y, way, v, b); ok {
			t.Errorf("%q: forged", way)
		}
	}
	n := 0
	for range m.Texts(y) {
		if n++; n == 1000 {
			break
		}
	}
}

// Each hasher answers by its own sum, whatever others are asked between two of its answers.
func TestP5_TwoHashersDontTouchOneAnother(t *testing.T) {
	x := of(t, sample())
	all := map[string]*Hasher{}
	for name, by := range sums() {
		all[name] = By(by)
	}
	for name, by := range sums() {
		want, h := plainTexts(by, sample())
		var got []string
		for b := range all[name].Texts(x) {
			for _, other := range all {
				other.Root(x)
				other.Prove(x, "d/d/x")
				other.Clash(x, x)
			}
			got = append(got, string(b))
		}
		if root := all[name].Root(x); string(root[:]) != h || !slices.Equal(got, want) {
			t.Errorf("%s: other hashers show", name)
		}
	}
}
