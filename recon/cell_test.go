package recon

import (
	"fmt"
	"math"
	"testing"

	"twine/api"
	"twine/rules"
	"twine/tree"
)

// wantCell looks at every field of the cell of d, beside the root's.
func wantCell(t *testing.T, q question, want api.Cell) {
	t.Helper()
	want.Path = "d"
	for _, c := range q.asked(t) {
		if c.Path == "d" {
			if c != want {
				t.Fatalf("%+v, want %+v", c, want)
			}
			return
		}
	}
	t.Fatalf("no cell, want %+v", want)
}

// Each kind of cell, the numbers all unlike.
func TestP14_3Fields(t *testing.T) {
	// Nodes and bytes: five and 60; three and 20; two and 7.
	five := dir("d", 5, dir("e", 4, file("f", 10), file("g", 50), link("l", 99)))
	three := dir("d", 3, file("f", 20), link("l", 50))
	two := dir("d", 2, file("h", 7))
	nothing := api.Node{}
	wantCell(t, question{a: top(file("d", 4)), b: top(file("d", 4)), o: top(five)}, api.Cell{What: api.Agreed, Keep: 5, Take: 1})
	wantCell(t, question{a: top(), b: top(), o: top(three)}, api.Cell{What: api.Agreed, Keep: 3})
	wantCell(t, question{a: top(file("d", 4)), b: top(file("d", 4)), o: top()}, api.Cell{What: api.Agreed, Take: 1})

	wantCell(t, question{a: top(five), b: at(nothing), o: top(three), rules: "prefer a d"}, api.Cell{What: api.Carry, Side: api.SideA, Keep: 3, Take: 5, Names: 5, Bytes: 60})
	wantCell(t, question{a: top(five), b: at(nothing), o: top(three), rules: "prefer b d"}, api.Cell{What: api.Carry, Side: api.SideB, Keep: 3, Had: api.Room{Names: 5, Bytes: 60}})
	wantCell(t, question{a: top(file("d", 9)), b: top(three), o: top(five), rules: "prefer a d"}, api.Cell{What: api.Carry, Side: api.SideA, Keep: 5, Take: 1, Names: 1, Bytes: 9, Had: api.Room{Names: 3, Bytes: 20}})
	wantCell(t, question{a: top(file("d", 9)), b: top(three), o: top(five), rules: "prefer b d"}, api.Cell{What: api.Carry, Side: api.SideB, Keep: 5, Take: 3, Names: 3, Bytes: 20, Had: api.Room{Names: 1, Bytes: 9}})
	wantCell(t, question{a: top(link("d", 9)), b: top(two), o: top(two)}, api.Cell{What: api.Carry, Side: api.SideA, Keep: 2, Take: 1, Names: 1, Had: api.Room{Names: 2, Bytes: 7}})
	wantCell(t, question{a: top(), b: top(two), o: top()}, api.Cell{What: api.Carry, Side: api.SideB, Take: 2, Names: 2, Bytes: 7})

	wantCell(t, question{a: top(file("d", 9)), b: top(three), o: top(five)}, api.Cell{What: api.Conflict, Keep: 5, Take: 5})
	wantCell(t, question{a: top(file("d", 9)), b: top(three), o: top()}, api.Cell{What: api.Conflict})
	wantCell(t, question{a: top(five), b: top(three), o: top(two), lost: ofB("d")}, api.Cell{What: api.Conflict, Keep: 2, Take: 2})

	wantCell(t, question{a: top(five), b: top(moded(three, 5)), o: top(two)}, api.Cell{What: api.Both, Mode: 5, Keep: 1, Take: 1})
	wantCell(t, question{a: top(five), b: top(moded(three, 5)), o: top()}, api.Cell{What: api.Both, Mode: 5, Take: 1})
	wantCell(t, question{a: top(five), b: top(three), o: top(moded(two, 3))}, api.Cell{What: api.Both, Side: api.SideA, Mode: 5, Keep: 1, Take: 1})
	wantCell(t, question{a: top(five), b: top(three), o: top(moded(two, 5))}, api.Cell{What: api.Both, Side: api.SideB, Mode: 3, Keep: 1, Take: 1})
	wantCell(t, question{a: top(five), b: top(three), o: top(), rules: "prefer b d"}, api.Cell{What: api.Both, Side: api.SideB, Mode: 3, Take: 1})

	wantCell(t, question{a: top(five), b: top(three), o: top(two)}, api.Cell{What: api.ModeConflict, Mode: 2, Keep: 1, Take: 1})
	wantCell(t, question{a: top(five), b: top(three), o: top(file("d", 1))}, api.Cell{What: api.ModeConflict, Mode: api.Unknown, Keep: 1, Take: 1})
	wantCell(t, question{a: top(five), b: top(three), o: top()}, api.Cell{What: api.ModeConflict, Mode: api.Unknown, Take: 1})

	wantCell(t, question{a: top(five), b: top(), o: top(three), held: ofA("d")}, api.Cell{What: api.Kept, Side: api.SideA, Mode: 3, Keep: 1, Take: 1})
	wantCell(t, question{a: top(), b: top(five), o: top(moded(two, 8)), held: ofB("d")}, api.Cell{What: api.Kept, Side: api.SideB, Mode: 8, Keep: 1, Take: 1})
	wantCell(t, question{a: top(), b: top(five), o: top(moded(two, 0)), held: ofB("d")}, api.Cell{What: api.Kept, Side: api.SideB, Mode: 0, Keep: 1, Take: 1})
}

// All modes of A, of B and of the archive (9: it has nothing there, 10: a file, 11: a link), and what is preferred.
func TestP14_3AllModes(t *testing.T) {
	for a := range 8 {
		for b := range 8 {
			for o := range 12 {
				for prefer, text := range []string{"", "prefer a *", "prefer b *"} {
					q := question{a: top(dir("d", a, file("f", 1))), b: top(dir("d", b, file("f", 1))), o: top(dir("d", o%9, file("f", 1))), rules: text}
					c := api.Cell{What: api.Both, Keep: 1, Take: 1}
					switch o {
					case 9:
						q.o, c.Keep = top(), 0
					case 10:
						q.o = top(moded(file("d", 1), a))
					case 11:
						q.o = top(link("d", 1))
					}
					switch {
					case a == b:
						c.Mode = a
					case o < 8 && a == o:
						c.Side, c.Mode = api.SideB, b
					case o < 8 && b == o:
						c.Side, c.Mode = api.SideA, a
					case prefer == api.SideA:
						c.Side, c.Mode = api.SideA, a
					case prefer == api.SideB:
						c.Side, c.Mode = api.SideB, b
					default:
						c.What, c.Mode = api.ModeConflict, min(o, 8)
					}
					wantCell(t, q, c)
				}
			}
		}
	}
}

// The root's mode goes as that of any directory; no rule matches the root.
func TestP14_3RootsMode(t *testing.T) {
	f := file("f", 1)
	all := "prefer a **\nprefer b /**\nprefer a *"
	question{a: dir("", 5, f), b: dir("", 7, f), o: dir("", 7, f), rules: all}.want(t, "A's", "/ Both A mode 5 1>1", "f Agreed 1>1")
	question{a: dir("", 5, f), b: dir("", 7, f), o: dir("", 8, f), rules: all}.want(t, "unknown", "/ ModeConflict mode 8 1>1", "f Agreed 1>1")
	question{a: dir("", 5, f), b: dir("", 6, f), o: dir("", 7), rules: all}.want(t, "neither", "/ ModeConflict mode 7 1>1", "f Agreed 0>1")
	question{a: dir("", 5), b: dir("", 5), o: dir("", 8)}.want(t, "first", "/ Both mode 5 1>1")
}

// The children go on, whatever becomes of the mode; a held directory's mode is carried as any.
func TestP14_3ModesAndChildren(t *testing.T) {
	d := func(mode int, f api.Node) api.Node { return top(dir("d", mode, f)) }
	held := lists{{"", "d"}, {"", "d"}}
	question{a: d(5, file("f", 2)), b: d(7, file("f", 1)), o: d(7, file("f", 1)), held: held}.want(t, "A's mode, A's file", root, "d Both A mode 5 1>1", "d/f Carry A 1>1 1/2 over 1/1")
	question{a: d(7, file("f", 2)), b: d(5, file("f", 1)), o: d(7, file("f", 1)), held: held}.want(t, "B's mode, A's file", root, "d Both B mode 5 1>1", "d/f Carry A 1>1 1/2 over 1/1")
	question{a: d(6, file("f", 2)), b: d(5, file("f", 1)), o: d(7, file("f", 1)), held: held}.want(t, "a conflict, A's file", root, "d ModeConflict mode 7 1>1", "d/f Carry A 1>1 1/2 over 1/1")
	question{a: d(6, file("f", 2)), b: d(5, file("f", 3)), o: d(7, file("f", 1)), rules: "prefer a d/f"}.want(t, "a rule for the file", root, "d ModeConflict mode 7 1>1", "d/f Carry A 1>1 1/2 over 1/3")
	question{a: d(6, file("f", 2)), b: d(5, file("f", 3)), o: d(7, file("f", 1)), rules: "prefer a d"}.want(t, "a rule for the directory", root, "d Both A mode 6 1>1", "d/f Conflict 1>1")
}

// A mode that a side has as unknown, which isn't asked for, is never taken for the archive's.
func TestP14_3UnknownMode(t *testing.T) {
	question{a: top(dir("d", 8)), b: top(dir("d", 7)), o: top(dir("d", 8))}.want(t, "A's", root, "d ModeConflict mode 8 1>1")
	question{a: top(dir("d", 7)), b: top(dir("d", 8)), o: top(dir("d", 8)), rules: "prefer a d"}.want(t, "B's", root, "d Both A mode 7 1>1")
	question{a: top(dir("d", 8)), b: top(dir("d", 8)), o: top(dir("d", 7))}.want(t, "both", root, "d Both mode 8 1>1")
}

// many: a tree with so many names, each of them the same subtree.
func many(t *testing.T, names int, s *tree.Tree) *tree.Tree {
	x := of(t, dir("", 7))
	for i := range names {
		var e api.Errno
		if x, e = x.Put(fmt.Sprintf("n%04d", i), s); e != api.OK {
			t.Fatal(e)
		}
	}
	return x
}

// Bytes that no number can tell stop at the greatest one.
func TestP14_3Bytes(t *testing.T) {
	f := of(t, api.Node{Value: api.Value{Kind: api.File, Size: api.MaxSize}})
	some, most := many(t, 2048, f), many(t, 4097, many(t, 2048, f))
	for _, c := range []struct {
		s           *tree.Tree
		names, size int
	}{{some, 2049, 2048 * api.MaxSize}, {most, 1 + 4097*2049, math.MaxInt}} {
		a := many(t, 1, c.s)
		m := Merge(a, of(t, top()), of(t, top()), lists{}, lists{}, rules.None())
		want := api.Cell{Path: "n0000", What: api.Carry, Side: api.SideA, Take: c.names, Names: c.names, Bytes: c.size}
		if len(m.Cells) != 2 || m.Cells[1] != want {
			t.Errorf("%+v", m.Cells)
		}
		m = Merge(a, of(t, top()), a, lists{}, lists{}, rules.None())
		want = api.Cell{Path: "n0000", What: api.Carry, Side: api.SideB, Keep: c.names, Had: api.Room{Names: c.names, Bytes: c.size}}
		if len(m.Cells) != 2 || m.Cells[1] != want {
			t.Errorf("%+v", m.Cells)
		}
	}
}
