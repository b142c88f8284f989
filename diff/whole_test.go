package diff

import (
	"fmt"
	"testing"

	"twine/api"
	"twine/tree"
)

// pairs: trees and trees.
func pairs() [][2]api.Node {
	var l [][2]api.Node
	small := smallTrees(1, "a", "a.b")
	for _, n := range small {
		for _, u := range small {
			l = append(l, [2]api.Node{n, u})
		}
	}
	a := newAuthor(5)
	for range 1500 {
		l = append(l, [2]api.Node{a.tree(4), a.tree(4)})
	}
	return append(l, [2]api.Node{some(), dir("", 5)}, [2]api.Node{some(), link("", 5)}, [2]api.Node{some(), some()}, [2]api.Node{chain(file("", 1), 64), some()})
}

func TestP13_5NothingJustForTheSame(t *testing.T) {
	same := 0
	for i, c := range pairs() {
		x, y := of(t, c[0]), of(t, c[1])
		if tree.Same(x, y, false) {
			same++
		}
		if len(all(x, y)) == 0 != tree.Same(x, y, false) {
			t.Errorf("pair %d: %s", i, told(all(x, y)))
		}
	}
	if same == 0 {
		t.Error("no two are the same")
	}
}

func TestP13_5SameButForMarks(t *testing.T) {
	n, u := dir("", 7, marked("a", 1), dir("d", 7, file("b", 2))), dir("", 7, file("a", 1), dir("d", 7, marked("b", 2)))
	wantList(t, "marks", all(of(t, n), of(t, u)), nil)
	wantList(t, "a root's", all(of(t, marked("", 1)), of(t, file("", 1))), nil)
}

// An unknown mode is a mode like others here.
func TestP13_5UnknownModes(t *testing.T) {
	n, u := dir("", 7, dir("d", 7)), dir("", api.Unknown, dir("d", api.Unknown))
	if l := all(of(t, n), of(t, u)); len(l) != 2 {
		t.Error(told(l))
	}
}

func TestP13_5ThereAndBack(t *testing.T) {
	for i, c := range pairs() {
		x, y := of(t, c[0]), of(t, c[1])
		l := all(x, y)
		if z, e := Apply(x, l); e != api.OK || !tree.Same(z, y, false) {
			t.Errorf("pair %d: %d", i, e)
		}
		if z, e := Apply(y, Turn(l)); e != api.OK || !tree.Same(z, x, false) {
			t.Errorf("pair %d, back: %d", i, e)
		}
		wantList(t, fmt.Sprint("pair ", i, ", turned"), Turn(l), all(y, x))
	}
}

func TestP13_6Joined(t *testing.T) {
	l := pairs()
	for i, c := range l {
		x, y, z := of(t, c[0]), of(t, c[1]), of(t, l[(i*7+3)%len(l)][1])
		got, e := Then(all(x, y), all(y, z))
		if e != api.OK {
			t.Errorf("pair %d: %d", i, e)
		}
		wantList(t, fmt.Sprint("pair ", i), got, all(x, z))
		if back, e := Then(all(x, y), all(y, x)); e != api.OK || len(back) != 0 {
			t.Errorf("pair %d, there and back: %d, %s", i, e, told(back))
		}
	}
}

// Whatever list is taken, the tree that is made differs by just that list.
func TestP13_6JustTheList(t *testing.T) {
	a := newAuthor(6)
	took := 0
	for i := range 6000 {
		n, u := a.tree(3), a.tree(3)
		l := plainOf(flat(n), flat(u))
		for range 1 + a.Intn(2) {
			l = a.spoil(l)
		}
		x := of(t, n)
		y, e := Apply(x, l)
		if e != api.OK {
			continue
		}
		took++
		wantList(t, fmt.Sprint("list ", i), all(x, y), l)
	}
	if took < 500 {
		t.Errorf("%d lists were taken", took)
	}
}

// A change to nothing that isn't nothing in all its fields would be told otherwise than it was given.
func TestP13_6NothingIsZero(t *testing.T) {
	n := dir("", 7, file("a", 1))
	for _, v := range []api.Value{{Mode: 1}, {Size: 1}, {Sum: [32]byte{1}}} {
		refused(t, "gone", n, []api.Change{{Path: "a", Old: fileValue(1), New: v}}, api.ErrDiffShape)
		refused(t, "not come", n, []api.Change{{Path: "b", New: v}}, api.ErrDiffShape)
	}
}
