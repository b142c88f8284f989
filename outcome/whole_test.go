package outcome

import (
	"slices"
	"testing"

	"twine/api"
	"twine/plan"
	"twine/recon"
	"twine/rules"
	"twine/tree"
)

// carriedOver: a and b with each Carry's subtree, and each mode of a Both, on both sides.
func carriedOver(t testing.TB, a, b *tree.Tree, m api.Merge) (*tree.Tree, *tree.Tree) {
	t.Helper()
	sides := [2]*tree.Tree{a, b}
	for _, c := range m.Cells {
		if c.Side == 0 {
			continue
		}
		from, to := c.Side-1, 2-c.Side
		x, ok := sides[from].Sub(c.Path)
		var e api.Errno
		switch {
		case c.What == api.Both:
			sides[to], e = sides[to].Set(c.Path, x.Value(), x.Marks())
		case ok:
			sides[to], e = sides[to].Put(c.Path, x)
		default:
			sides[to], e = sides[to].Drop(c.Path)
		}
		if e != api.OK {
			t.Fatalf("%s: %q, %d", toldCells(m), c.Path, e)
		}
	}
	return sides[0], sides[1]
}

// open: those cells that are in conflict. (How much a directory whose modes conflict keeps isn't asked: it is in the archive now.)
func open(m api.Merge) []api.Cell {
	var l []api.Cell
	for _, c := range m.Cells {
		switch c.What {
		case api.ModeConflict:
			c.Keep = 0
			l = append(l, c)
		case api.Conflict:
			l = append(l, c)
		}
	}
	return l
}

func wantSettled(t testing.TB, q question) api.Merge {
	t.Helper()
	m := q.merge(t)
	x := q.archiveOf(t, m, done(m))
	a, b := carriedOver(t, of(t, q.a), of(t, q.b), m)
	again := recon.Merge(a, b, x, lists{}, lists{}, rules.None())
	for _, c := range again.Cells {
		if c.What == api.Carry || c.What == api.Kept || c.Side != 0 {
			t.Fatalf("%s\nthen %s", toldCells(m), toldCells(again))
		}
	}
	if !slices.Equal(open(again), open(m)) {
		t.Fatalf("%s\nthen %s", toldCells(m), toldCells(again))
	}
	return m
}

// Everything done, a further merge has nothing to do, and the same conflicts.
func TestP18_4Settled(t *testing.T) {
	seen := map[int]int{}
	a := newAuthor(7)
	for range 6000 {
		for _, c := range wantSettled(t, a.calm()).Cells {
			seen[c.What]++
		}
	}
	for _, what := range []int{api.Agreed, api.Both, api.Carry, api.Conflict, api.ModeConflict} {
		if seen[what] < 100 {
			t.Error(seen)
		}
	}
}

// The same of each pair of things over each in the archive.
func TestP18_4Pairs(t *testing.T) {
	for _, a := range things() {
		for _, b := range things() {
			for _, o := range oldThings() {
				wantSettled(t, asked(a, b, o))
			}
		}
	}
	wantSettled(t, question{a: dir("", 5), b: dir("", 6), o: dir("", 8)})
	wantSettled(t, question{a: dir("", 5), b: dir("", 6), o: dir("", 6)})
}

// reckoned: the nodes that the cells reckon; of those that are left out what they keep alone.
func reckoned(m api.Merge, left []int) int {
	sum := 0
	for i, c := range m.Cells {
		if slices.Contains(left, i) {
			sum += c.Keep
		} else {
			sum += max(c.Keep, c.Take)
		}
	}
	return sum
}

// Whatever became of the cells, the new archive is within what they reckon.
func TestP18_5Nodes(t *testing.T) {
	a := newAuthor(8)
	reached := 0
	for range 4000 {
		q := a.question()
		m := q.merge(t)
		for _, hows := range [][]int{nil, done(m), a.hows(len(m.Cells)), slices.Repeat([]int{api.HowFailed}, len(m.Cells)), slices.Repeat([]int{api.HowLeft}, len(m.Cells))} {
			n := q.archiveOf(t, m, hows).Count()
			if n > reckoned(m, nil) {
				t.Fatalf("%s, hows %v: %d nodes", toldCells(m), hows, n)
			}
			if n == reckoned(m, nil) {
				reached++
			}
		}
	}
	if reached < 1000 {
		t.Error(reached)
	}
}

// The same with what a plan leaves out, which is reckoned at what it keeps: so the archive stays in bounds, whatever fails.
func TestP18_5LeftOut(t *testing.T) {
	a := newAuthor(9)
	seen := 0
	for range 4000 {
		q := a.question()
		m := q.merge(t)
		p := plan.Of(m, 1+a.Intn(reckoned(m, nil)+2))
		var ends []api.Done
		for _, it := range p.Items {
			if a.Intn(6) > 0 {
				ends = append(ends, ended(it.Number, 1+a.Intn(5)))
			}
		}
		hows := Hows(m, p, ends)
		if n := q.archiveOf(t, m, hows).Count(); n > reckoned(m, p.Left) {
			t.Fatalf("%s, left %v, hows %v: %d nodes", toldCells(m), p.Left, hows, n)
		}
		seen += len(p.Left)
	}
	if seen < 4000 {
		t.Error(seen)
	}
}

// wantOld looks that x is as o, but for directories that are on both sides.
func wantOld(t testing.TB, q question, x *tree.Tree, hows []int) {
	t.Helper()
	a, b, o, is := flat(q.a), flat(q.b), flat(q.o), flat(x.Node())
	for _, m := range []plain{a, b, o, is} {
		for p := range m {
			if a[p].value.Kind == api.Dir && b[p].value.Kind == api.Dir {
				continue
			}
			if is[p] != o[p] {
				t.Fatalf("%s, hows %v: at %q: %s, the archive was %s", toldCells(q.merge(t)), hows, p, is.told(), o.told())
			}
		}
	}
}

// Where nothing was done the archive stays, but for directories that are on both sides: of these it keeps the mode that it had.
func TestP18_6NothingDone(t *testing.T) {
	a := newAuthor(10)
	for range 4000 {
		q := a.question()
		m := q.merge(t)
		hows := make([]int, len(m.Cells))
		for i, c := range m.Cells {
			if c.What == api.Carry || c.What == api.Both || c.What == api.Agreed {
				hows[i] = notDone()[a.Intn(4)]
			}
		}
		x := q.archiveOf(t, m, hows)
		wantOld(t, q, x, hows)
		for p, v := range of(t, q.o).All() {
			if is, _ := x.At(p); v.Kind == api.Dir && is != v {
				t.Fatalf("%s, hows %v: the directory %q: %v", toldCells(m), hows, p, is)
			}
		}
	}
}

// The same where hows tell it of cells with items, and of agreed ones, alone.
func TestP18_6ItemsAlone(t *testing.T) {
	a := newAuthor(11)
	for range 4000 {
		q := a.question()
		m := q.merge(t)
		hows := make([]int, len(m.Cells))
		for i, c := range m.Cells {
			if c.What == api.Agreed || c.What == api.Carry || c.What == api.Both && c.Side != 0 {
				hows[i] = notDone()[a.Intn(4)]
			}
		}
		wantOld(t, q, q.archiveOf(t, m, hows), hows)
	}
}

// Where the archive has nothing that isn't a directory on both sides, and all is left out, it is the same as before.
func TestP18_6AllLeft(t *testing.T) {
	a := newAuthor(12)
	for range 3000 {
		q := a.question()
		m := q.merge(t)
		x := q.archiveOf(t, m, slices.Repeat([]int{api.HowLeft}, len(m.Cells)))
		o, as, bs := flat(q.o), flat(q.a), flat(q.b)
		covered := slices.ContainsFunc(m.Cells, func(c api.Cell) bool {
			k := o[c.Path].value.Kind
			return as[c.Path].value.Kind == api.Dir && bs[c.Path].value.Kind == api.Dir && (k == api.File || k == api.Link)
		})
		if !covered && !tree.Same(x, of(t, q.o), false) {
			t.Fatalf("%s: %s, the archive was %s", toldCells(m), toldNode(x.Node()), o.told())
		}
	}
}
