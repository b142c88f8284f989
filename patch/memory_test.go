package patch

import (
	"bytes"
	"crypto/sha256"
	"fmt"
	"reflect"
	"sync"
	"testing"

	"twine/api"
	"twine/tree"
)

// Bytes is new memory each time, the room behind it too.
func TestP8_3NewMemory(t *testing.T) {
	for what, n := range roots() {
		x := made(t, n, api.MaxNodes, nil)
		before := told(x)
		one, two := x.Bytes(), x.Bytes()
		fill(one)
		if string(two) != before.bytes {
			t.Errorf("%s: two answers share memory", what)
		}
		fill(two)
		_ = append(two[:0], bytes.Repeat([]byte{1}, cap(two)+9)...)
		alike(t, what, told(x), before)
		three := x.Bytes()
		x.Replace("~", of(t, dir("", 7, file("f", 1, 1))))
		x.Replace("", of(t, dir("", 7)))
		if string(three) != before.bytes {
			t.Errorf("%s: an answer changes with the patch", what)
		}
	}
}

// Answers that are laid waste between Replaces harm no later ones.
func TestP8_3LaidWaste(t *testing.T) {
	a := newAuthor(t, 400)
	x := made(t, randomTree(a.r, 40), 200, nil)
	for i := range 300 {
		p, s := a.next(x.Tree())
		x.Replace(p, s)
		fill(x.Bytes())
		if !alike(t, fmt.Sprint("step ", i), told(x), plainly(x.Tree(), sha256.Sum256)) {
			return
		}
	}
}

// The trees that are handed in, and those that were told, stay as they are.
func TestP8_2TreesStay(t *testing.T) {
	a := newAuthor(t, 401)
	first := of(t, randomTree(a.r, 40))
	x, _ := New(first, 200, nil)
	type seen struct {
		t *tree.Tree
		n api.Node
	}
	l := []seen{{first, first.Node()}}
	for _, s := range a.trees {
		l = append(l, seen{s, s.Node()})
	}
	for range 300 {
		p, s := a.next(x.Tree())
		x.Replace(p, s)
		l = append(l, seen{x.Tree(), x.Tree().Node()})
	}
	for i, s := range l {
		if !reflect.DeepEqual(s.t.Node(), s.n) {
			t.Errorf("tree %d has changed", i)
		}
	}
}

// A sum may do with a text what it likes: lay it waste, lay something behind it, keep it.
func TestP8_3TextsAreTheSums(t *testing.T) {
	type seen struct {
		text []byte
		was  string
	}
	var l []seen
	keeps := func(b []byte) [32]byte {
		l = append(l, seen{b, string(b)})
		return sha256.Sum256(b)
	}
	wastes := func(b []byte) [32]byte {
		h := sha256.Sum256(b)
		_ = append(b, bytes.Repeat([]byte{0xEE}, 300)...)
		fill(b)
		return h
	}
	a := newAuthor(t, 402)
	n := randomTree(a.r, 40)
	x, y := made(t, n, 200, keeps), made(t, n, 200, wastes)
	for i := range 300 {
		p, s := a.next(x.Tree())
		x.Replace(p, s)
		y.Replace(p, s)
		want := plainly(x.Tree(), sha256.Sum256)
		if !alike(t, fmt.Sprint("kept, step ", i), told(x), want) || !alike(t, fmt.Sprint("laid waste, step ", i), told(y), want) {
			return
		}
	}
	for _, s := range l {
		if string(s.text) != s.was {
			t.Fatalf("a text that the sum kept has changed: %x, was %x", s.text, s.was)
		}
	}
}

// Up to a Replace's end the patch is as it was, for the sum, too.
func TestP8_3AskedByTheSum(t *testing.T) {
	var x *Patch
	var before state
	busy := false
	sum := func(b []byte) [32]byte {
		if busy {
			alike(t, "asked by the sum", told(x), before)
		}
		return sha256.Sum256(b)
	}
	a := newAuthor(t, 403)
	x = made(t, randomTree(a.r, 40), 100, sum)
	for range 60 {
		before = told(x)
		p, s := a.next(x.Tree())
		busy = true
		x.Replace(p, s)
		busy = false
		alike(t, p, told(x), plainly(x.Tree(), sha256.Sum256))
		if t.Failed() {
			return
		}
	}
}

// Two patches over one sum, of one tree, and two over two sums: each is as if it were alone, its calls of the sum too.
func TestP8_3TwoPatches(t *testing.T) {
	l := []summer{sha256.Sum256, sha256.Sum256, sums()["two bits"], sums()["zeros"], sums()["two bits"]}
	first := of(t, some())
	var patches []*Patch
	var meters []*meter
	for _, sum := range l {
		m := &meter{sum: sum}
		x, e := New(first, 200, m.count)
		if e != api.OK {
			t.Fatal(e)
		}
		patches, meters = append(patches, x), append(meters, m)
	}
	for i := range l { // each by its own script, the others untouched meanwhile
		before := make([]state, len(l))
		calls := make([]int, len(l))
		for j := range l {
			before[j], calls[j] = told(patches[j]), meters[j].calls
		}
		a := newAuthor(t, int64(500+i))
		alone := &meter{sum: l[i]}
		x := alone.begun(t, some(), 200)
		alone.calls = meters[i].calls
		for range 60 {
			p, s := a.next(x.Tree())
			if one, other := x.Replace(p, s), patches[i].Replace(p, s); one != other {
				t.Errorf("%q: %v, alone %v", p, other, one)
			}
		}
		alike(t, fmt.Sprint("patch ", i), told(patches[i]), told(x))
		if alone.calls != meters[i].calls {
			t.Errorf("patch %d: %d calls, alone %d", i, meters[i].calls, alone.calls)
		}
		for j := range l {
			if j == i {
				continue
			}
			alike(t, fmt.Sprintf("patch %d beside patch %d", j, i), told(patches[j]), before[j])
			if meters[j].calls != calls[j] {
				t.Errorf("patch %d was at work for patch %d", j, i)
			}
		}
	}
}

// Tree, Bytes and Root change nothing: many may ask at once, and other patches be changed meanwhile.
func TestP8_3AskedAtOnce(t *testing.T) {
	x := made(t, some(), api.MaxNodes, nil)
	want := told(x)
	var all sync.WaitGroup
	for i := range 8 {
		all.Go(func() {
			y := made(t, some(), api.MaxNodes, nil)
			for j := range 50 {
				if got := told(x); got.bytes != want.bytes || got.root != want.root {
					t.Errorf("asked at once: another answer")
				}
				y.Replace(nameOf(j), of(t, file("", i%9, j)))
			}
		})
	}
	all.Wait()
}

// Of each directory of the tree something is kept, and of nothing that was there once.
func TestP8_3KeepsNoMore(t *testing.T) {
	a := newAuthor(t, 404)
	x := made(t, randomTree(a.r, 40), 200, nil)
	for i := range 300 {
		p, s := a.next(x.Tree())
		x.Replace(p, s)
		dirs := 0
		for _, v := range x.Tree().All() {
			if v.Kind == api.Dir {
				dirs++
			}
		}
		if len(x.kept) != dirs {
			t.Fatalf("step %d: %d things are kept, of %d directories", i, len(x.kept), dirs)
		}
	}
}
