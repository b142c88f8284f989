package recon

import (
	"fmt"
	"slices"
	"testing"

	"twine/api"
	"twine/rules"
	"twine/scan"
	"twine/tree"
	"twine/world"
)

// questions: made up ones, and each with a turn of its own.
func questions(seed int64, n int) []question {
	a := newAuthor(seed)
	var l []question
	for range n {
		l = append(l, a.question())
	}
	return l
}

func isEnd(c api.Cell) bool {
	return c.What == api.Carry || c.What == api.Agreed || c.What == api.Conflict
}

// Every path has its cell, or one above it that ends there; no path has two.
func TestP14_5Covered(t *testing.T) {
	for i, q := range questions(5, 4000) {
		cells := map[string]api.Cell{}
		var before string
		for j, c := range q.asked(t) {
			if j > 0 && compare(before, c.Path) >= 0 {
				t.Fatalf("%d: %q behind %q", i, c.Path, before)
			}
			before = c.Path
			cells[c.Path] = c
		}
		for p := range cells {
			above := prefixes(p)
			for _, q := range above[:len(above)-1] {
				if isEnd(cells[q]) {
					t.Fatalf("%d: %q lies below an end, %q", i, p, q)
				}
			}
		}
		var paths []string
		for _, n := range []api.Node{q.a, q.b, q.o} {
			for p := range flat(n) {
				paths = append(paths, p)
			}
		}
		for _, p := range slices.Concat(paths, q.lost[0], q.lost[1]) {
			if _, ok := cells[p]; !ok && isPath(p) && !slices.ContainsFunc(prefixes(p), func(q string) bool { return isEnd(cells[q]) }) {
				t.Fatalf("%d: %q has no cell", i, p)
			}
		}
	}
}

// What a Carry goes over.
func TestP14_6Carries(t *testing.T) {
	carries := 0
	for i, q := range questions(6, 4000) {
		sides, o, r := []plain{flat(q.a), flat(q.b)}, flat(q.o), parsed(t, q.rules)
		for _, c := range q.asked(t) {
			if c.What != api.Carry {
				continue
			}
			carries++
			from, over := sides[c.Side-1].sub(c.Path), sides[2-c.Side].sub(c.Path)
			if !over.same(o.sub(c.Path), true) && r.Prefer(c.Path) != c.Side {
				t.Errorf("%d: %s goes over what has changed", i, told(c))
			}
			if slices.Contains(q.held[2-c.Side], c.Path) {
				t.Errorf("%d: %s goes over what is held", i, told(c))
			}
			if from.same(over, false) {
				t.Errorf("%d: %s goes over the same", i, told(c))
			}
			for _, p := range slices.Concat(q.lost[0], q.lost[1]) {
				if isPath(p) && within(p, c.Path) {
					t.Errorf("%d: %s has something unreadable in it", i, told(c))
				}
			}
			if c.Names != len(from) || c.Take != len(from) || c.Had != over.room() || c.Keep != len(o.sub(c.Path)) {
				t.Errorf("%d: %s: other numbers", i, told(c))
			}
		}
	}
	if carries < 2000 {
		t.Errorf("%d carries", carries)
	}
}

func TestP14_7Exchanged(t *testing.T) {
	for i, q := range questions(7, 4000) {
		m := Merge(of(t, q.b), of(t, q.a), of(t, q.o), exchanged(q.lost), exchanged(q.held), parsed(t, q.rules).Mirror())
		wantCells(t, fmt.Sprint(i), m.Cells, exchangedCells(q.asked(t)))
	}
}

func TestP14_8SameSides(t *testing.T) {
	for i, q := range questions(8, 3000) {
		q.b, q.lost = q.a, lists{}
		for _, c := range q.asked(t) {
			if c.What != api.Agreed && c.What != api.Both || c.Side != 0 {
				t.Errorf("%d: %s", i, told(c))
			}
		}
	}
}

func TestP14_8ArchiveAsA(t *testing.T) {
	seen := map[int]int{}
	for i, q := range questions(9, 3000) {
		q.o, q.lost, q.held, q.rules = q.a, lists{}, lists{}, []string{"", "skip *\n# prefer a *", "prefer a nowhere"}[i%3]
		for _, c := range q.asked(t) {
			seen[c.Side]++
			if c.What == api.Conflict || c.What == api.ModeConflict || c.Side == api.SideA {
				t.Errorf("%d: %s", i, told(c))
			}
		}
	}
	if seen[api.SideB] < 1000 {
		t.Error(seen)
	}
}

// Against a tree that differs by marks alone, and one that shares what it can, the cells are the same.
func TestP14_2ValuesAlone(t *testing.T) {
	for i, q := range questions(10, 1500) {
		x := of(t, q.a)
		same := Merge(x, of(t, q.b), of(t, q.o), q.lost, q.held, parsed(t, q.rules)).Cells
		wantCells(t, fmt.Sprint(i), same, q.asked(t))
		wantCells(t, fmt.Sprint(i, ", marks"), Merge(unmarked(x), unmarked(of(t, q.b)), unmarked(of(t, q.o)), q.lost, q.held, parsed(t, q.rules)).Cells, same)
		q.b = q.a
		wantCells(t, fmt.Sprint(i, ", one tree"), Merge(x, x, x, q.lost, q.held, parsed(t, q.rules)).Cells, question{q.a, q.a, q.a, q.lost, q.held, q.rules}.plainly(t))
	}
}

// unmarked: a tree without its marks, made anew.
func unmarked(x *tree.Tree) *tree.Tree {
	n := tree.Fold(x, func(p string, v api.Value, m [2]api.Mark, names []string, below []api.Node) api.Node {
		for i, name := range names {
			below[i].Name = name
		}
		return api.Node{Value: v, Kids: below}
	})
	y, _ := tree.Of(n)
	return y
}

// scanned: a volume's scan, of whose reading calls one fails.
func scanned(t *testing.T, w *world.World, volume int, r *rules.Rules, o *tree.Tree, well int) (*tree.Tree, []string, []string) {
	t.Helper()
	if well >= 0 {
		w.Rig(volume, well, 1, 0, true)
	}
	s := scan.New(w, volume, r, o)
	s.Run(scan.NewCancel(-1), 2)
	var lost []string
	for _, l := range s.Lost() {
		lost = append(lost, l.Path)
	}
	return s.Tree(), lost, s.Held()
}

func newWorld(t *testing.T) *world.World {
	w, e := world.New(api.Caps{}, 1, [3][]api.Thing{})
	if e != api.OK {
		t.Fatal(e)
	}
	return w
}

// fill: some things, the file d/f with a text; held: a directory, too, in which something let be lies.
func fill(t *testing.T, w *world.World, volume int, text string, held bool) {
	edits := []api.Edit{
		{Kind: api.EditMkdir, Path: "d", Mode: 7}, {Kind: api.EditFile, Path: "d/f", Mode: 6, Data: []byte(text)}, {Kind: api.EditLink, Path: "e", To: "there"},
		{Kind: api.EditMkdir, Path: "k", Mode: 5}, {Kind: api.EditMkdir, Path: "k/l", Mode: 7}, {Kind: api.EditFile, Path: "k/l/x.o", Mode: 6, Data: []byte("let be")}, {Kind: api.EditFile, Path: "k/n", Mode: 6, Data: []byte("12")},
	}
	if !held {
		edits = edits[:3]
	}
	for _, x := range edits {
		if e := w.Edit(volume, x); e != api.OK {
			t.Fatal(x.Path, e)
		}
	}
}

// What scans tell of a world, whichever call fails: the merge takes it, and nothing let be or unreadable is carried over.
func TestP14_2OfScans(t *testing.T) {
	r := parsed(t, "skip *.o")
	w, old := newWorld(t), newWorld(t)
	fill(t, w, api.A, "new", true)
	fill(t, w, api.B, "old", false)
	fill(t, old, api.A, "old", true)
	o, _, _ := scanned(t, old, api.A, r, of(t, dir("", 8)), -1)
	o = Trim(o, r)
	b, _, heldB := scanned(t, w, api.B, r, o, -1)
	faults := 0
	for well := -1; well < 16; well++ {
		a, lost, heldA := scanned(t, w, api.A, r, o, well)
		q := question{a.Node(), b.Node(), o.Node(), lists{lost, nil}, lists{heldA, heldB}, "skip *.o"}
		got := q.asked(t)
		wantCells(t, fmt.Sprint(well), got, q.plainly(t))
		if well < 0 {
			wantCells(t, "no fault", got, []api.Cell{
				{What: api.Both, Mode: 7, Keep: 1, Take: 1},
				{Path: "d", What: api.Both, Mode: 7, Keep: 1, Take: 1},
				{Path: "d/f", What: api.Carry, Side: api.SideA, Keep: 1, Take: 1, Names: 1, Bytes: 3, Had: api.Room{Names: 1, Bytes: 3}},
				{Path: "e", What: api.Agreed, Keep: 1, Take: 1},
				{Path: "k", What: api.Kept, Side: api.SideA, Mode: 5, Keep: 1, Take: 1},
				{Path: "k/l", What: api.Kept, Side: api.SideA, Mode: 7, Keep: 1, Take: 1},
				{Path: "k/n", What: api.Carry, Side: api.SideB, Keep: 1, Had: api.Room{Names: 1, Bytes: 2}},
			})
		}
		faults += len(lost)
		if len(lost) == 1 && !slices.ContainsFunc(got, func(c api.Cell) bool { return c.What == api.Conflict && within(lost[0], c.Path) }) {
			t.Errorf("%d: %s is lost: %s", well, lost[0], toldAll(got))
		}
		w.Rig(api.A, 0, 0, 0, true)
	}
	if faults < 8 {
		t.Errorf("%d paths were lost", faults)
	}
}
