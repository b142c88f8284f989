package recon

import (
	"slices"
	"sync"
	"testing"

	"twine/api"
)

// much: a question to which each kind of cell is the answer.
func much() question {
	return question{
		a:    top(dir("b", 5), file("c", 2), dir("k", 7, file("f", 1)), file("m", 2), dir("n", 6), file("s", 1)),
		b:    top(dir("b", 7), file("c", 1), file("m", 3), dir("n", 5), file("s", 1)),
		o:    top(dir("b", 7), file("c", 1), dir("k", 7, file("f", 1)), file("m", 1), dir("n", 7)),
		lost: lists{{"l/x", "l", "/"}, {"b/q"}},
		held: lists{{"", "k", "//"}, {"m"}},
	}
}

func muchTold() []string {
	return []string{
		root, "b Both A mode 5 1>1", "b/q Conflict 0>0", "c Carry A 1>1 1/2 over 1/1", "k Kept A mode 7 1>1", "k/f Carry B 1>0 0/0 over 1/1",
		"l Conflict 0>0", "m Conflict 1>1", "n ModeConflict mode 7 1>1", "s Agreed 0>1",
	}
}

func TestP14_3Much(t *testing.T) { much().want(t, "much", muchTold()...) }

// A nil list and an empty one are the same.
func TestP14_2NoLists(t *testing.T) {
	q := much()
	q.lost, q.held = lists{}, lists{}
	want := q.asked(t)
	q.lost, q.held = lists{{}, {}}, lists{{}, {}}
	wantCells(t, "empty", q.asked(t), want)
}

// What is handed in, and the room behind it, may be written over behind the call.
func TestP14_2WrittenOver(t *testing.T) {
	q := much()
	want := q.plainly(t)
	lost, held := roomy(q.lost), roomy(q.held)
	m := Merge(of(t, q.a), of(t, q.b), of(t, q.o), lost, held, parsed(t, q.rules))
	for _, l := range []lists{lost, held} {
		for _, paths := range l {
			paths = paths[:cap(paths)]
			for i := range paths {
				paths[i] = "scrawl"
			}
		}
	}
	wantCells(t, "what was answered", m.Cells, want)
}

// One memory for both lists of a side, and for both sides.
func TestP14_2OneList(t *testing.T) {
	l := []string{"k", "m", "b/q"}
	q := much()
	m := Merge(of(t, q.a), of(t, q.b), of(t, q.o), lists{l[2:], l[2:]}, lists{l[:1], l[1:2]}, parsed(t, ""))
	q.lost, q.held = lists{{"b/q"}, {"b/q"}}, lists{{"k"}, {"m"}}
	wantCells(t, "one list", m.Cells, q.plainly(t))
	if !slices.Equal(l, []string{"k", "m", "b/q"}) {
		t.Error(l)
	}
}

// What is handed out, and the room behind it, may be written over: no other answer and nothing that was handed in is touched.
func TestP14_2HandedOut(t *testing.T) {
	q := much()
	a, b, o, r := of(t, q.a), of(t, q.b), of(t, q.o), parsed(t, q.rules)
	want := q.plainly(t)
	one, two := Merge(a, b, o, q.lost, q.held, r), Merge(a, b, o, q.lost, q.held, r)
	cells := one.Cells[:cap(one.Cells)]
	for i := range cells {
		cells[i] = api.Cell{Path: "scrawl", What: 9, Keep: 9}
	}
	wantCells(t, "another answer", two.Cells, want)
	wantCells(t, "a later one", Merge(a, b, o, q.lost, q.held, r).Cells, want)
	wantTree(t, "a", a, q.a)
	wantTree(t, "b", b, q.b)
	wantTree(t, "o", o, q.o)
}

// What Trim answers is a tree of its own: what is made of it leaves o as it was.
func TestP14_1HandedOut(t *testing.T) {
	x := of(t, full())
	for _, text := range []string{"", "skip *.o"} {
		y := Trim(x, parsed(t, text))
		n := y.Node()
		n.Kids[0].Kids[0].Name = "scrawl"
		y.Put("d", of(t, top()))
		y.Drop("d/f")
		wantTree(t, "o", x, full())
	}
}

// All of it at once, on the same trees and lists.
func TestP14_2AtOnce(t *testing.T) {
	q := much()
	a, b, o, r := of(t, q.a), of(t, q.b), of(t, q.o), parsed(t, "skip c\nprefer a nowhere")
	want := q.plainly(t)
	var group sync.WaitGroup
	wrong := make([]bool, 8)
	for i := range wrong {
		group.Go(func() {
			for range 50 {
				m := Merge(a, b, o, q.lost, q.held, r)
				if !slices.Equal(m.Cells, want) || Trim(o, r).Count() != o.Count()-1 {
					wrong[i] = true
				}
				clear(m.Cells)
			}
		})
	}
	group.Wait()
	if slices.Contains(wrong, true) {
		t.Error("someone saw another thing")
	}
}
