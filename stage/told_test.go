package stage

import (
	"fmt"
	"math"
	"testing"

	"twine/api"
	"twine/tree"
)

// Steps of a file by its size; Left falls by one a step, and the staged file grows by a piece.
func TestP16_2Sizes(t *testing.T) {
	for _, c := range []struct{ size, steps int }{
		{0, 1}, {1, 1}, {2, 1}, {511, 1}, {512, 1}, {513, 2}, {1023, 2}, {1024, 2}, {1025, 3}, {5120, 10}, {5121, 11},
	} {
		n := filed("", 6, text(c.size))
		w := begun(t, "f", n, map[string]string{"": text(c.size)})
		s := New(w, api.A, api.B, "f", ".twine/1", treeOf(t, n))
		there := ""
		for i := range c.steps {
			what := fmt.Sprintf("%d bytes, step %d", c.size, i)
			stands(t, what, s, w, "f", c.steps-i, there)
			does(t, what, s, api.DidStage, api.OK)
			there = fmt.Sprintf("1 2.7.%d.0", min((i+1)*512, c.size))
		}
		what := fmt.Sprintf("%d bytes, at the end", c.size)
		stands(t, what, s, w, "", 0, fmt.Sprintf("1 2.6.%d.%d", c.size, c.size))
		isOver(t, what, s, w)
		wantText(t, what, pictured(w, api.B, ".twine/1"), values(treeOf(t, n)))
	}
}

// Left hangs on the tree alone, not on what the source has.
func TestP16_2LeftOfTheTree(t *testing.T) {
	w := exampled(t)
	for _, c := range []struct {
		n    api.Node
		left int
	}{
		{dir("", 7), 1},
		{link("", text(4095)[1:700]), 1},
		{sized(api.MaxSize, filed("", 6, "")), 1 << 31},
		{sized(api.MaxSize-510, filed("", 6, "")), 1 << 31},
		{sized(api.MaxSize-511, filed("", 6, "")), 1<<31 - 1},
		{dir("", 7, sized(513, filed("a", 6, "")), dir("b", 7, filed("c", 6, ""), link("d", "x")), sized(512, filed("e", 6, ""))), 1 + 2 + 1 + 1 + 1 + 1},
	} {
		s := New(w, api.A, api.B, "nowhere", "no/where", treeOf(t, c.n))
		want(t, "Left", s.Left(), c.left)
		p, ok := s.Next()
		want(t, "Next", p, "nowhere")
		want(t, "there is one", ok, true)
	}
}

// One subtree at so many places that nobody could go through them: New, Next, Left and steps answer, and Left falls.
func TestP16_2SharedMuch(t *testing.T) {
	x := treeOf(t, sized(api.MaxSize, filed("", 6, "")))
	for range 60 {
		y := treeOf(t, dir("", 7))
		for _, name := range []string{"a", "b"} {
			z, e := y.Put(name, x)
			wantOK(t, "Put", e)
			y = z
		}
		x = y
	}
	w := exampled(t)
	s := New(w, api.A, api.B, "d", ".twine/1", x)
	left := s.Left()
	want(t, "Left is the greatest number", left, math.MaxInt)
	for range 60 {
		does(t, "a step", s, api.DidStage, api.OK)
		if s.Left() > left || s.Left() < math.MaxInt-99 {
			t.Errorf("Left: %d, it was %d", s.Left(), left)
		}
		left = s.Left()
	}
	does(t, "the first file", s, api.DidOvertaken, api.ErrStageOther)
	isOver(t, "behind it", s, w)

	// 2^20 files, of few that are shared: each of them counts.
	x = treeOf(t, sized(1025, filed("", 6, "")))
	dirs := 0
	for range 20 {
		y := treeOf(t, dir("", 7))
		for _, name := range []string{"a", "b"} {
			y, _ = y.Put(name, x)
		}
		x, dirs = y, 2*dirs+1
	}
	want(t, "Left", New(w, api.A, api.B, "d", ".twine/2", x).Left(), 3<<20+dirs)
}

// Next and Left call nothing: not even one that would fail is made, and they tell the same, however often they are asked.
func TestP16_2AskingChangesNothing(t *testing.T) {
	n, data := several()
	w := begun(t, "d", n, data)
	for _, reading := range []bool{false, true} {
		w.Rig(api.A, 0, 2, 9, reading)
		w.Rig(api.B, 0, 2, 9, reading)
	}
	before := told(w)
	x := treeOf(t, n)
	s := New(w, api.A, api.B, "d", ".twine/1", x)
	for range 5 {
		stands(t, "ahead of all", s, w, "d", 12, "")
	}
	wantText(t, "New, Next and Left: the world", told(w), before)

	w = begun(t, "d", n, data)
	one, other := w, w.Copy()
	s, u := New(one, api.A, api.B, "d", ".twine/1", x), New(other, api.A, api.B, "d", ".twine/1", x)
	for range 14 {
		before = told(one)
		for range 3 {
			s.Next()
			s.Left()
		}
		wantText(t, "Next and Left: the world", told(one), before)
		did, e := s.Step()
		does(t, "one that isn't asked", u, did, e)
		wantText(t, "the worlds", told(one), told(other))
	}
}

// What is done to the source, or the place, changes neither Next nor Left.
func TestP16_2EditsChangeNeither(t *testing.T) {
	n, data := several()
	for steps := range 12 {
		w := begun(t, "d", n, data)
		s := New(w, api.A, api.B, "d", ".twine/1", treeOf(t, n))
		for range steps {
			does(t, "a step", s, api.DidStage, api.OK)
		}
		p, _ := s.Next()
		left := s.Left()
		want(t, "Left", left, 12-steps)
		wantOK(t, "the source moves", w.Edit(api.A, api.Edit{Kind: api.EditRename, Path: "d", To: "z"}))
		if steps > 0 {
			wantOK(t, "the place moves", w.Rename(api.B, ".twine/1", ".twine/2"))
		}
		w.Fall([3]int{}, [3][]int{})
		q, ok := s.Next()
		want(t, "Next", q, p)
		want(t, "there is one", ok, true)
		want(t, "Left", s.Left(), left)
	}
}

// The empty path, which is the root's as a source, and true; the empty path and false, where there is none.
func TestP16_2RootAsSource(t *testing.T) {
	w := begun(t, "", dir("", 7, filed("f", 6, "abc")), map[string]string{"f": "abc"})
	s := New(w, api.A, api.B, "", ".twine/1", treeOf(t, dir("", 7, filed("f", 6, "abc"))))
	for _, c := range []struct {
		next string
		ok   bool
	}{{"", true}, {"f", true}, {"", false}} {
		p, ok := s.Next()
		want(t, "Next", p, c.next)
		want(t, "there is one", ok, c.ok)
		s.Step()
	}
}

// The tree that was handed in stays as it was, its marks too, and serves several stages.
func TestP16_2TreeStays(t *testing.T) {
	n, data := several()
	n.Kids[1].Marks = [2]api.Mark{{Number: 3, Stamp: 4}, {Number: 5, Stamp: 6}}
	x := treeOf(t, n)
	before := fmt.Sprint(x.Node())
	w := begun(t, "d", n, data)
	for i := range 3 {
		place := fmt.Sprint(".twine/", i)
		s := New(w, api.A, api.B, "d", place, x)
		steps, did, e := run(s)
		want(t, "steps", steps, 12)
		want(t, "did", did, api.DidNothing)
		want(t, "error", e, api.OK)
		want(t, "the tree", fmt.Sprint(x.Node()), before)
		wantText(t, place, pictured(w, api.B, place), values(x))
	}
	y, e := x.Put("a", treeOf(t, dir("", 0)))
	wantOK(t, "Put", e)
	s := New(w, api.A, api.B, "d", ".twine/z", x) // another tree that was made of it meanwhile isn't seen
	want(t, "Left", s.Left(), 12)
	want(t, "Same", tree.Same(x, y, false), false)
}
