package outcome

import (
	"fmt"
	"testing"

	"twine/api"
	"twine/tree"
)

// oldMarks: those of the archive's files.
const oldMarks = "(81,82)"

// asked: what a, b and o have at d, each file marked: A's with 1 and 91, B's with 92 and 2, the archive's with 81 and 82.
func asked(a, b, o api.Node) question {
	return question{a: at(marked(a, 1, 91)), b: at(marked(b, 92, 2)), o: at(marked(o, 81, 82))}
}

// wantCell looks that d's cell is of that kind.
func (q question) wantCell(t *testing.T, what, side int) {
	t.Helper()
	if c := q.merge(t).Cells[1]; c.Path != "d" || c.What != what || c.Side != side {
		t.Fatalf("another cell: %s", toldCells(q.merge(t)))
	}
}

func toldNode(n api.Node) string { return flat(n).told() }

// old: the archive as it was.
func (q question) old() string { return toldNode(q.o) }

func TestP18_2Agreed(t *testing.T) {
	for _, n := range []struct {
		node api.Node
		want string
	}{{api.Node{}, "/7"}, {file("", 2), "/7 d:6.2(1,2)"}, {moded(file("", 0), 0), "/7 d:0.0(1,2)"}, {link("", 3), "/7 d>3"}} {
		for i, o := range oldThings() {
			if n.node.Value.Kind == api.Nothing && o.Value.Kind == api.Nothing {
				continue
			}
			q := asked(n.node, n.node, o)
			q.wantCell(t, api.Agreed, 0)
			for _, how := range everyHow() {
				want := q.old()
				if how == api.HowNone {
					want = n.want
				}
				q.want(t, fmt.Sprint("over ", i), want, api.HowNone, how)
			}
			q.want(t, "no hows", n.want)
			q.want(t, "fewer", n.want, api.HowNone)
			q.want(t, "more", n.want, api.HowNone, api.HowNone, api.HowFailed, api.HowLeft)
		}
	}
}

// carries: what is carried, and what then stands in the archive, if A carries it, and if B does.
func carries() []struct {
	node api.Node
	a, b string
} {
	return []struct {
		node api.Node
		a, b string
	}{
		{api.Node{}, "/7", "/7"},
		{file("", 4), "/7 d:6.4(1,0)", "/7 d:6.4(0,2)"},
		{link("", 4), "/7 d>4", "/7 d>4"},
		{dir("", 3), "/7 d/3", "/7 d/3"},
		{
			dir("", 3, dir("x", 2, file("y", 1), dir("z", 1, file("f", 2), link("l", 3))), file("x.y", 5)),
			"/7 d/3 d/x/2 d/x/y:6.1(1,0) d/x/z/1 d/x/z/f:6.2(1,0) d/x/z/l>3 d/x.y:6.5(1,0)",
			"/7 d/3 d/x/2 d/x/y:6.1(0,2) d/x/z/1 d/x/z/f:6.2(0,2) d/x/z/l>3 d/x.y:6.5(0,2)",
		},
	}
}

// A Carry of each sort over each sort of thing that the archive, and the other side, has.
func TestP18_2Carry(t *testing.T) {
	seen := 0
	for _, n := range carries() {
		for i, o := range things() {
			if n.node.Value.Kind == o.Value.Kind && (o.Value.Kind == api.Nothing || o.Value.Kind == api.Dir) {
				continue
			}
			seen++
			for _, side := range []int{api.SideA, api.SideB} {
				q, put := asked(n.node, o, o), n.a
				if side == api.SideB {
					q, put = asked(o, n.node, o), n.b
				}
				q.wantCell(t, api.Carry, side)
				for _, how := range everyHow() {
					want := q.old()
					if how == api.HowPut {
						want = put
					}
					q.want(t, fmt.Sprint("over ", i), want, api.HowNone, how)
				}
				q.want(t, "no hows", q.old())
				q.want(t, "more", put, api.HowNone, api.HowPut, api.HowFailed)
			}
		}
	}
	if seen < 30 {
		t.Error(seen)
	}
}

// A rule has carried over what had changed, too: the archive has neither.
func TestP18_2CarryPreferred(t *testing.T) {
	for i, o := range append(oldThings(), file("", 9), dir("", 7, file("q", 9))) {
		for _, n := range carries() {
			q := asked(n.node, link("", 8), o)
			if tree.Same(of(t, q.a), of(t, q.o), true) {
				continue // A hasn't changed: no rule is asked
			}
			q.rules = "prefer a d"
			q.wantCell(t, api.Carry, api.SideA)
			q.want(t, fmt.Sprint("preferred, over ", i), n.a, api.HowNone, api.HowPut)
			q.want(t, fmt.Sprint("preferred, failed, over ", i), q.old(), api.HowNone, api.HowFailed)
		}
	}
}

// Whatever is told of a conflict, it keeps what the archive has, marks too.
func TestP18_2Conflict(t *testing.T) {
	for _, o := range append(oldThings(), file("", 9), dir("", 7, file("q", 9), dir("r", 8, file("s", 1)))) {
		q := asked(file("", 3), dir("", 7, file("f", 4)), o)
		q.wantCell(t, api.Conflict, 0)
		for _, how := range everyHow() {
			q.want(t, "conflict", q.old(), api.HowNone, how)
		}
	}
	q := asked(dir("", 7), dir("", 7), dir("", 7, file("f", 1)))
	q.lost = lists{{"d"}, nil}
	q.wantCell(t, api.Conflict, 0)
	q.want(t, "directories, one of them unreadable", "/7 d/7 d/f:6.1"+oldMarks)
}

// both: directories of these modes, with a new file f on both sides, o there.
func both(a, b int, o api.Node) question {
	return asked(dir("", a, file("f", 1)), dir("", b, file("f", 1)), o)
}

func TestP18_2BothWithoutSide(t *testing.T) {
	for _, c := range []struct {
		what         string
		o            api.Node
		old, leftOut string // behind any other How than HowNone, and behind HowLeft
	}{
		{"nothing", api.Node{}, "/7 d/8 d/f:6.1(1,2)", "/7"},
		{"a file", file("", 1), "/7 d/8 d/f:6.1(1,2)", ""},
		{"a link", link("", 1), "/7 d/8 d/f:6.1(1,2)", ""},
		{"a directory", dir("", 3), "/7 d/3 d/f:6.1(1,2)", ""},
		{"a directory of that mode", dir("", 5), "/7 d/5 d/f:6.1(1,2)", ""},
		{"a directory of unknown mode", dir("", 8), "/7 d/8 d/f:6.1(1,2)", ""},
	} {
		q := both(5, 5, c.o)
		q.wantCell(t, api.Both, 0)
		for _, how := range everyHow() {
			want := c.old
			switch {
			case how == api.HowNone:
				want = "/7 d/5 d/f:6.1(1,2)"
			case how == api.HowLeft && c.leftOut != "":
				want = c.leftOut
			}
			q.want(t, c.what, want, api.HowNone, how, api.HowNone)
		}
		q.want(t, c.what+", no hows", "/7 d/5 d/f:6.1(1,2)")
	}
}

func TestP18_2BothWithSide(t *testing.T) {
	for _, c := range []struct {
		what         string
		a, b         int
		rules        string
		o            api.Node
		side         int
		put          string
		old, leftOut string // behind any other How than HowPut, and behind HowLeft
	}{
		{"B had it", 5, 7, "", dir("", 7), api.SideA, "5", "7", ""},
		{"A had it", 7, 5, "", dir("", 7), api.SideB, "5", "7", ""},
		{"a rule, nothing", 5, 6, "prefer a d", api.Node{}, api.SideA, "5", "8", "/7"},
		{"another rule, nothing", 5, 6, "prefer b d", api.Node{}, api.SideB, "6", "8", "/7"},
		{"a rule, a file", 5, 6, "prefer b d", file("", 1), api.SideB, "6", "8", ""},
		{"a rule, a link", 5, 6, "prefer b d", link("", 1), api.SideB, "6", "8", ""},
		{"a rule, a directory", 5, 6, "prefer a d", dir("", 7), api.SideA, "5", "7", ""},
		{"a rule, a directory of unknown mode", 5, 6, "prefer a d", dir("", 8), api.SideA, "5", "8", ""},
	} {
		q := both(c.a, c.b, c.o)
		q.rules = c.rules
		q.wantCell(t, api.Both, c.side)
		for _, how := range everyHow() {
			mode := c.old
			if how == api.HowPut {
				mode = c.put
			}
			want := "/7 d/" + mode + " d/f:6.1(1,2)"
			if how == api.HowLeft && c.leftOut != "" {
				want = c.leftOut
			}
			q.want(t, c.what, want, api.HowNone, how, api.HowNone)
		}
		q.want(t, c.what+", no hows", "/7 d/"+c.old+" d/f:6.1(1,2)")
	}
}

func TestP18_2ModeConflict(t *testing.T) {
	for _, c := range []struct {
		what    string
		o       api.Node
		mode    int
		leftOut bool
	}{
		{"nothing", api.Node{}, 8, true},
		{"a file", file("", 1), 8, false},
		{"a link", link("", 1), 8, false},
		{"a directory", dir("", 7), 7, false},
		{"a directory of unknown mode", dir("", 8), 8, false},
	} {
		q := both(5, 6, c.o)
		q.wantCell(t, api.ModeConflict, 0)
		for _, how := range everyHow() {
			want := fmt.Sprintf("/7 d/%d d/f:6.1(1,2)", c.mode)
			if how == api.HowLeft && c.leftOut {
				want = "/7"
			}
			q.want(t, c.what, want, api.HowNone, how)
		}
	}
}

// A kept directory stays, whatever is told of it.
func TestP18_2Kept(t *testing.T) {
	for _, mode := range []int{0, 7, 8} {
		q := asked(dir("", 6, file("f", 1), file("g", 1)), api.Node{}, dir("", mode, file("f", 1), file("h", 1)))
		q.held = lists{{"", "d"}, nil}
		q.wantCell(t, api.Kept, api.SideA)
		for _, how := range everyHow() {
			kept := fmt.Sprintf("/7 d/%d", mode)
			q.want(t, "kept", kept, api.HowNone, how, api.HowPut, api.HowNone, api.HowNone)
			q.want(t, "kept, nothing done below", kept+" d/f:6.1"+oldMarks+" d/h:6.1"+oldMarks, api.HowNone, how, api.HowFailed, api.HowNone, api.HowWeak)
		}
	}
}

// Where a directory is left out, nothing below it is there, at any depth, whatever became of it; what is beside it is.
func TestP18_2BelowLeftOut(t *testing.T) {
	inner := func(mode int) api.Node {
		return dir("d", mode, dir("e", 5, file("agreed", 1), dir("f", 5, file("g", 1))))
	}
	more := inner(5)
	more.Kids = append(more.Kids, file("x", 1))
	beside := dir("d.e", 7, file("f", 2))
	for _, mode := range []int{5, 6} { // the same: Both; another one: ModeConflict
		q := question{a: marked(top(inner(mode), beside), 1, 0), b: marked(top(more, beside), 0, 2), o: top()}
		cells := q.merge(t).Cells
		if len(cells) != 9 || cells[1].Path != "d" || cells[6].What != api.Carry {
			t.Fatal(toldCells(q.merge(t)))
		}
		for _, below := range everyHow() {
			hows := []int{0, api.HowLeft, below, below, below, below, api.HowPut, 0, 0}
			q.want(t, "left out", "/7 d.e/7 d.e/f:6.2(1,2)", hows...)
		}
		q.want(t, "left out, no more hows", "/7 d.e/7 d.e/f:6.2(1,2)", 0, api.HowLeft)
		q.want(t, "the one below", fmt.Sprintf("/7 d/%d d/x:6.1(0,2) d.e/7 d.e/f:6.2(1,2)", 5+3*(mode-5)), 0, 0, api.HowLeft, 0, 0, 0, api.HowPut)
	}
}

// Where the archive has a file, a directory that is left out is there all the same, with what is below it.
func TestP18_2BelowLeftFile(t *testing.T) {
	a := dir("", 5, dir("e", 5, file("f", 1)), file("g", 1))
	q := asked(a, dir("", 5, dir("e", 5)), file("", 1))
	q.want(t, "a file in the archive", "/7 d/8 d/e/5 d/e/f:6.1(1,0)", 0, api.HowLeft, 0, api.HowPut, api.HowFailed)
	q.want(t, "a file in the archive, and more left out", "/7 d/8 d/g:6.1(1,0)", 0, api.HowLeft, api.HowLeft, api.HowPut, api.HowPut)
}

// Of an agreed file A's mark is a's and B's is b's, of a carried one the carried side's alone is there, of what stays the archive's are.
func TestP18_2Marks(t *testing.T) {
	for _, am := range [][2]int{{1, 0}, {0, 0}, {1, 91}, {0, 91}} {
		for _, bm := range [][2]int{{0, 2}, {0, 0}, {92, 2}, {92, 0}} {
			q := question{
				a: marked(top(file("agreed", 1), file("fromA", 2), file("fromB", 1), file("stays", 2)), am[0], am[1]),
				b: marked(top(file("agreed", 1), file("fromA", 1), file("fromB", 2), file("stays", 3)), bm[0], bm[1]),
				o: marked(top(file("agreed", 1), file("fromA", 1), file("fromB", 1), file("stays", 1)), 81, 82),
			}
			q.want(t, "done", fmt.Sprintf("/7 agreed:6.1(%d,%d) fromA:6.2(%[1]d,0) fromB:6.2(0,%[2]d) stays:6.1(81,82)", am[0], bm[1]), 0, 0, api.HowPut, api.HowPut, 0)
			q.want(t, "weak", q.old(), 0, api.HowWeak, api.HowWeak, api.HowWeak, 0)
		}
	}
}

// A mark is the number and the stamp, both.
func TestP18_2WholeMarks(t *testing.T) {
	f := file("f", 1)
	f.Marks = [2]api.Mark{{Number: 3, Stamp: 5}, {Number: 7, Stamp: 9}}
	g := file("f", 1)
	g.Marks = [2]api.Mark{{Number: api.MaxStamp, Stamp: 1}, {Number: 1, Stamp: api.MaxStamp}}
	q := question{a: top(f), b: top(g), o: top()}
	x, _ := q.archive(t).Sub("f")
	if want := [2]api.Mark{f.Marks[0], g.Marks[1]}; x.Marks() != want {
		t.Errorf("%v, want %v", x.Marks(), want)
	}
}

// All of d, by each pair of things, each thing in the archive, each rule and each How of its cell.
func TestP18_2Everything(t *testing.T) {
	seen := map[int]int{}
	for i, a := range things() {
		for j, b := range things() {
			for k, o := range oldThings() {
				q := asked(a, b, o)
				q.rules = []string{"", "prefer a *", "prefer b *"}[(i+j+k)%3]
				if (i+j+k)%2 == 1 {
					q.held = lists{{"", "d"}, {""}}
				}
				m := q.merge(t)
				if len(m.Cells) == 1 {
					continue // nothing everywhere
				}
				seen[m.Cells[1].What]++
				hows := done(m)
				for _, how := range everyHow() {
					hows[1] = how
					q.archiveOf(t, m, hows)
				}
			}
		}
	}
	for what := api.Agreed; what <= api.Kept; what++ {
		if seen[what] < 8 {
			t.Error(seen)
		}
	}
}

// Any merge, any hows.
func TestP18_2ByChance(t *testing.T) {
	a := newAuthor(4)
	for range 6000 {
		q := a.question()
		m := q.merge(t)
		hows := a.hows(len(m.Cells))
		x := q.archiveOf(t, m, hows)
		if y := q.mirror(t).archive(t, hows...); toldNode(turned(y.Node())) != toldNode(x.Node()) {
			t.Fatalf("%s, hows %v: exchanged:\n%s, want\n%s", toldCells(m), hows, toldNode(turned(y.Node())), toldNode(x.Node()))
		}
	}
}
