package outcome

import (
	"math"
	"strings"
	"testing"

	"twine/api"
	"twine/tree"
)

// zs: a path of so many names.
func zs(n int) string { return strings.TrimSuffix(strings.Repeat("z/", n), "/") }

// chain: n below so many directories.
func chain(n api.Node, levels int) api.Node {
	n.Name = "z"
	for range levels {
		n = dir("z", 5, n)
	}
	n.Name = ""
	return n
}

// noPaths: texts that are no path.
func noPaths() []string {
	return []string{"/", "//", "d/", "/d", "d//f", ".", "..", "d/.", "d/../f", "d\x00", "\x00", strings.Repeat("n", 256), "d/" + strings.Repeat("n", 256), zs(65), zs(300)}
}

// wantSome looks that Archive answers a tree that may be, whatever the cells are.
func wantSome(t *testing.T, q question, hows []int, cells ...api.Cell) *tree.Tree {
	t.Helper()
	x := Archive(of(t, q.a), of(t, q.b), of(t, q.o), api.Merge{Cells: cells}, hows)
	if x == nil {
		t.Fatalf("no tree: %s", toldCells(api.Merge{Cells: cells}))
	}
	if p, e := tree.Check(x.Node()); e != api.OK {
		t.Fatalf("%q, %d: %s", p, e, toldCells(api.Merge{Cells: cells}))
	}
	return x
}

// wide: trees with something of each sort.
func wide() question {
	return question{
		a: marked(top(dir("d", 7, file("f", 1), dir("g", 5, file("h", 2))), file("e", 1), link("l", 1)), 1, 91),
		b: marked(top(dir("d", 5, file("f", 2)), file("e", 1), file("l", 3), file("n", 1)), 92, 2),
		o: marked(top(dir("d", 7, file("f", 1)), link("e", 1), dir("l", 8, file("m", 1))), 81, 82),
	}
}

func everyWhat() []int {
	return []int{api.Agreed, api.Both, api.Carry, api.Conflict, api.ModeConflict, api.Kept, 0, -1, 7, math.MaxInt, math.MinInt}
}

func TestP18_2NoCells(t *testing.T) {
	for _, hows := range [][]int{nil, {}, {api.HowPut, api.HowLeft}} {
		wantSome(t, wide(), hows)
	}
}

// Paths that aren't there, and such as are none.
func TestP18_2OddPaths(t *testing.T) {
	paths := append(noPaths(), "q", "d/q", "q/r", "e/x", "l/m", "d/f/x", "d", "", zs(64))
	for _, p := range paths {
		for _, what := range everyWhat() {
			for _, how := range everyHow() {
				for side := -1; side <= 3; side++ {
					c := api.Cell{Path: p, What: what, Side: side, Mode: 5}
					wantSome(t, wide(), []int{how}, c)
					wantSome(t, wide(), []int{0, how, how}, api.Cell{What: api.Both, Mode: 7}, c, c)
				}
			}
		}
	}
}

// Modes and sides that are none.
func TestP18_2OddFields(t *testing.T) {
	for _, mode := range []int{-1, 9, math.MaxInt, math.MinInt} {
		for _, what := range everyWhat() {
			for _, side := range []int{0, 1, 2, 3, -1, math.MaxInt, math.MinInt} {
				for _, how := range everyHow() {
					c := api.Cell{What: what, Side: side, Mode: mode, Keep: math.MinInt, Take: math.MaxInt}
					d := c
					d.Path = "d"
					wantSome(t, wide(), []int{how, how}, c, d)
					wantSome(t, wide(), []int{how, how}, d, c)
				}
			}
		}
	}
}

// Agreed where the sides aren't the same, kept where the archive has nothing: no merge tells it, but the words are clear.
func TestP18_2OddWords(t *testing.T) {
	root := api.Cell{What: api.Both, Mode: 7}
	turned := wide()
	turned.a, turned.b = turned.b, turned.a
	for _, q := range []question{wide(), turned} {
		for _, p := range []string{"", "d", "e", "l", "n", "q"} {
			x, _ := wantSome(t, q, nil, root, api.Cell{Path: p, What: api.Agreed}).Sub(p)
			if a, _ := of(t, q.a).Sub(p); !tree.Same(x, a, false) {
				t.Errorf("agreed %q isn't as A has it", p)
			}
		}
		x := wantSome(t, q, []int{0, api.HowLeft}, root, api.Cell{Path: "q", What: api.Kept, Mode: 3})
		if v, _ := x.At("q"); v.Kind != api.Dir || v.Mode != 3 {
			t.Errorf("kept: %v", v)
		}
	}
}

// Cells in any order, any of them more than once.
func TestP18_2OddOrder(t *testing.T) {
	a := newAuthor(5)
	paths := append(noPaths(), "", "d", "d/f", "d/g", "d/g/h", "e", "l", "l/m", "a", "a/b", "b/c")
	for range 20000 {
		var cells []api.Cell
		for range a.Intn(8) {
			cells = append(cells, api.Cell{Path: paths[a.Intn(len(paths))], What: a.Intn(8), Side: a.Intn(4), Mode: a.Intn(10)})
		}
		wantSome(t, wide(), a.hows(len(cells)), cells...)
	}
}

// A merge's cells turned round, shuffled and doubled.
func TestP18_2OddMerges(t *testing.T) {
	a := newAuthor(6)
	for range 2000 {
		q := a.question()
		cells := q.merge(t).Cells
		hows := a.hows(len(cells))
		wantSome(t, q, hows, append(cells, cells...)...)
		a.Shuffle(len(cells), func(i, j int) { cells[i], cells[j] = cells[j], cells[i] })
		wantSome(t, q, hows, cells...)
		other := a.question() // the cells of another one
		wantSome(t, other, hows, cells...)
		wantSome(t, question{a: file("", 1), b: link("", 1), o: file("", 2)}, hows, cells...)
	}
}

// Many times the same cell, and cells within cells as deep as paths go, and deeper.
func TestP18_2OddMany(t *testing.T) {
	var twice, deep []api.Cell
	for i := range 100000 {
		twice = append(twice, api.Cell{Path: "d", What: api.Both, Mode: i % 8})
	}
	for i := range 1000 {
		deep = append(deep, api.Cell{Path: zs(i), What: api.Both, Mode: 7})
	}
	if x := wantSome(t, wide(), nil, twice...); x.Count() != 2 {
		t.Error(x.Count())
	}
	if x := wantSome(t, wide(), nil, deep...); x.Depth() != api.MaxDepth {
		t.Error(x.Depth())
	}
}

// The deepest trees that may be.
func TestP18_2Deepest(t *testing.T) {
	f, g := marked(file("", 1), 1, 91), marked(file("", 2), 92, 2)
	old := marked(file("", 1), 81, 82)
	path := zs(api.MaxDepth)
	for _, c := range []struct {
		q    question
		want api.Node
	}{
		{question{a: chain(f, 64), b: chain(f, 64), o: chain(old, 64)}, marked(f, 1, 91)},
		{question{a: chain(f, 64), b: chain(g, 64), o: chain(old, 64)}, marked(g, 0, 2)},
		{question{a: chain(f, 64), b: dir("", 5), o: dir("", 5)}, marked(f, 1, 0)},
		{question{a: chain(f, 64), b: dir("", 5), o: chain(g, 64)}, g},
	} {
		m := c.q.merge(t)
		x := c.q.archiveOf(t, m, done(m))
		s, ok := x.Sub(path)
		if !ok || s.Value() != c.want.Value || s.Marks() != c.want.Marks {
			t.Errorf("%s: %v", path, ok)
		}
	}
}
