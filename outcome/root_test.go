package outcome

import (
	"fmt"
	"testing"

	"twine/api"
)

// roots: sides and archive of these modes, f on A and B as new, g in the archive alone.
func roots(a, b, o int) question {
	return question{a: marked(dir("", a, file("f", 1)), 1, 0), b: marked(dir("", b, file("f", 1)), 0, 2), o: marked(dir("", o, file("g", 1)), 81, 82)}
}

func (q question) wantRoot(t *testing.T, what, side int) {
	t.Helper()
	if c := q.merge(t).Cells[0]; c.Path != "" || c.What != what || c.Side != side {
		t.Fatalf("another cell: %s", toldCells(q.merge(t)))
	}
}

// The root is always there, with the cell's mode or the archive's.
func TestP18_2Root(t *testing.T) {
	for _, c := range []struct {
		a, b, o    int
		rules      string
		what, side int
		done, old  int
	}{
		{7, 7, 7, "", api.Both, 0, 7, 7},
		{5, 5, 7, "", api.Both, 0, 5, 7},
		{5, 5, 8, "", api.Both, 0, 5, 8},
		{0, 0, 7, "", api.Both, 0, 0, 7},
		{5, 7, 7, "", api.Both, api.SideA, 5, 7},
		{7, 5, 7, "prefer a *", api.Both, api.SideB, 5, 7},
		{5, 6, 7, "", api.ModeConflict, 0, 7, 7},
		{5, 6, 8, "", api.ModeConflict, 0, 8, 8},
		{5, 6, 7, "prefer a **", api.ModeConflict, 0, 7, 7}, // no pattern matches the root
	} {
		q := roots(c.a, c.b, c.o)
		q.rules = c.rules
		q.wantRoot(t, c.what, c.side)
		for _, how := range everyHow() {
			mode := c.old
			if how == api.HowNone && c.side == 0 || how == api.HowPut && c.side != 0 {
				mode = c.done
			}
			q.want(t, "root", fmt.Sprintf("/%d f:6.1(1,2)", mode), how)
			q.want(t, "root, nothing done", fmt.Sprintf("/%d g:6.1(81,82)", mode), how, api.HowWeak, api.HowFailed)
		}
	}
}

// A root that couldn't be read: the archive as it was.
func TestP18_2RootLost(t *testing.T) {
	q := roots(8, 7, 5)
	q.lost = lists{{""}, nil}
	q.wantRoot(t, api.Conflict, 0)
	for _, how := range everyHow() {
		q.want(t, "lost", "/5 g:6.1(81,82)", how, how)
	}
}

// The first run: the archive is a directory of unknown mode, alone.
func TestP18_2First(t *testing.T) {
	q := question{a: marked(dir("", 7, file("f", 1), dir("d", 5)), 1, 0), b: dir("", 7, dir("d", 5)), o: dir("", 8)}
	q.a.Kids[0], q.a.Kids[1] = q.a.Kids[1], q.a.Kids[0]
	q.want(t, "all done", "/7 d/5 f:6.1(1,0)", done(q.merge(t))...)
	q.want(t, "nothing done", "/8 d/8", api.HowWeak, api.HowWeak, api.HowFailed)
	q.want(t, "all left out", "/8", api.HowLeft, api.HowLeft, api.HowLeft)
	empty := question{a: top(), b: top(), o: dir("", 8)}
	empty.want(t, "no things", "/7")
	empty.want(t, "no things, left", "/8", api.HowLeft)
}

// A root's cell that no merge tells is free, but the root is there, as its words say.
func TestP18_2RootOdd(t *testing.T) {
	q := roots(5, 6, 7)
	for _, c := range []struct {
		cell api.Cell
		how  int
		want string
	}{
		{api.Cell{What: api.Agreed}, api.HowNone, "/5 f:6.1(1,2)"},
		{api.Cell{What: api.Agreed}, api.HowWeak, "/7 g:6.1(81,82)"},
		{api.Cell{What: api.Carry, Side: api.SideA}, api.HowPut, "/5 f:6.1(1,0)"},
		{api.Cell{What: api.Carry, Side: api.SideB}, api.HowPut, "/6 f:6.1(0,2)"},
		{api.Cell{What: api.Carry, Side: api.SideB}, api.HowLeft, "/7 g:6.1(81,82)"},
		{api.Cell{What: api.Kept, Side: api.SideB, Mode: 3}, api.HowLeft, "/3"},
		{api.Cell{What: api.ModeConflict, Mode: 3}, api.HowLeft, "/3"},
	} {
		x := Archive(of(t, q.a), of(t, q.b), of(t, q.o), api.Merge{Cells: []api.Cell{c.cell}}, []int{c.how})
		if got := toldNode(x.Node()); got != c.want {
			t.Errorf("%+v, %d: %s, want %s", c.cell, c.how, got, c.want)
		}
	}
}
