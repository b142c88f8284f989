package diff

import (
	"fmt"
	"slices"
	"strings"
	"testing"

	"twine/api"
	"twine/tree"
)

// Of each small tree, each other value at each of a few paths, Old being what is there.
func TestP13_2AllSmallLists(t *testing.T) {
	paths := []string{"", "a", "a/a", "a/b", "b"}
	values := []api.Value{nothing(), dirValue(7), fileValue(3), linkValue(3)}
	for i, n := range smallTrees(2, "a", "b") {
		if i%9 != 0 && i > 60 {
			continue
		}
		x, m := of(t, n), flat(n)
		for code := range 1 << (2 * len(paths)) {
			var l []api.Change
			for j, p := range paths {
				if v := values[code>>(2*j)&3]; v != m[p].v {
					l = append(l, api.Change{Path: p, Old: m[p].v, New: v})
				}
			}
			applied(t, fmt.Sprint("tree ", i, ", list ", code), x, m, l)
		}
		holds(t, "t", x, m)
	}
}

// Each path is named or not: what isn't named keeps its value and its marks.
func TestP13_2AllPartsOfAList(t *testing.T) {
	n := dir("", 7, marked("a", 1), dir("b", 7, marked("c", 2), dir("d", 7, link("e", 3))), marked("f", 4))
	u := dir("", 6, dir("a", 7, marked("g", 1)), marked("b", 6), link("f", 4))
	l := plainOf(flat(n), flat(u))
	if len(l) != 8 {
		t.Fatal(told(l))
	}
	for code := range 1 << len(l) {
		var part []api.Change
		for i, c := range l {
			if code>>i&1 == 1 {
				part = append(part, c)
			}
		}
		applied(t, fmt.Sprint("part ", code), of(t, n), flat(n), part)
	}
}

func TestP13_2RandomLists(t *testing.T) {
	a := newAuthor(2)
	seen := map[api.Errno]int{}
	for i := range 6000 {
		n, u := a.tree(3), a.tree(3)
		l := plainOf(flat(n), flat(u))
		for range a.Intn(3) {
			l = a.spoil(l)
		}
		seen[applied(t, fmt.Sprint("list ", i), of(t, n), flat(n), l)]++
	}
	for _, e := range []api.Errno{api.OK, api.ErrDiffOrder, api.ErrDiffOld, api.ErrDiffShape} {
		if seen[e] < 200 {
			t.Errorf("%d: %d times", e, seen[e])
		}
	}
}

// The empty list and nil leave the tree as it is, marks too, whatever its root is.
func TestP13_2NoChanges(t *testing.T) {
	for _, n := range []api.Node{some(), dir("", 7), marked("", 1), link("", 1), chain(file("", 1), 64)} {
		holds(t, "nil", taken(t, "nil", n, nil), flat(n))
		holds(t, "empty", taken(t, "empty", n, []api.Change{}), flat(n))
	}
}

func TestP13_2Marks(t *testing.T) {
	n := dir("", 7, marked("a", 1), marked("b", 2), dir("d", 7, marked("e", 3), marked("f", 4)), link("l", 1))
	mode := fileValue(1)
	mode.Mode = 7
	x := taken(t, "marks", n, []api.Change{
		{Path: "", Old: dirValue(7), New: dirValue(5)},
		{Path: "a", Old: fileValue(1), New: mode},
		{Path: "d", Old: dirValue(7), New: dirValue(6)},
		{Path: "d/e", Old: fileValue(3), New: fileValue(4)},
		{Path: "g", New: fileValue(9)},
		{Path: "l", Old: linkValue(1), New: fileValue(5)},
	})
	for p, want := range map[string][2]api.Mark{"a": {}, "d/e": {}, "g": {}, "l": {}, "b": marked("", 2).Marks, "d/f": marked("", 4).Marks} {
		if s, ok := x.Sub(p); !ok || s.Marks() != want {
			t.Errorf("%s: %v", p, s.Marks())
		}
	}
	y := taken(t, "a root with marks", marked("", 1), []api.Change{{Path: "", Old: fileValue(1), New: fileValue(2)}})
	if y.Marks() != [2]api.Mark{} {
		t.Error("the root kept its marks")
	}
}

// Named paths whose directory is taken away, or comes, in the same list.
func TestP13_2KindsChange(t *testing.T) {
	full := dir("", 7, dir("d", 5, dir("e", 7, marked("g", 1)), marked("f", 1)), marked("d.x", 9))
	gone := []api.Change{{Path: "d/e", Old: dirValue(7)}, {Path: "d/e/g", Old: fileValue(1)}, {Path: "d/f", Old: fileValue(1)}}
	for _, v := range []api.Value{nothing(), fileValue(2), linkValue(2), dirValue(6)} {
		l := append([]api.Change{{Path: "d", Old: dirValue(5), New: v}}, gone...)
		y := taken(t, "it goes", full, l)
		taken(t, "it comes back", y.Node(), Turn(l))
	}
	taken(t, "a directory for a file, in it another file", full, []api.Change{
		{Path: "d/f", Old: fileValue(1), New: dirValue(7)}, {Path: "d/f/f", New: fileValue(1)},
	})
	taken(t, "a file for a directory, a directory for its neighbour", full, []api.Change{
		{Path: "d/e", Old: dirValue(7), New: fileValue(3)}, {Path: "d/e/g", Old: fileValue(1)}, {Path: "d/f", Old: fileValue(1), New: dirValue(1)}, {Path: "d/f/h", New: linkValue(1)},
	})
}

// A root may be a file or a link, while nothing stands below it.
func TestP13_2Roots(t *testing.T) {
	for _, v := range []api.Value{fileValue(1), linkValue(1), dirValue(6)} {
		taken(t, "an empty root", dir("", 7), []api.Change{{Path: "", Old: dirValue(7), New: v}})
		taken(t, "with all of it", dir("", 7, dir("a", 7, file("b", 1))), []api.Change{
			{Path: "", Old: dirValue(7), New: v}, {Path: "a", Old: dirValue(7)}, {Path: "a/b", Old: fileValue(1)},
		})
	}
	taken(t, "a file's", file("", 1), []api.Change{{Path: "", Old: fileValue(1), New: dirValue(7)}, {Path: "a", New: linkValue(1)}})
	taken(t, "a link's", link("", 1), []api.Change{{Path: "", Old: linkValue(1), New: fileValue(1)}})
	for _, n := range []api.Node{dir("", 7), dir("", 7, file("a", 1)), file("", 1), link("", 1)} {
		refused(t, "nothing", n, []api.Change{{Path: "", Old: n.Value}}, api.ErrDiffShape)
	}
	refused(t, "nothing, all gone", dir("", 7, file("a", 1)), []api.Change{{Path: "", Old: dirValue(7)}, {Path: "a", Old: fileValue(1)}}, api.ErrDiffShape)
	for _, v := range []api.Value{fileValue(1), linkValue(1)} {
		root := api.Change{Path: "", Old: dirValue(7), New: v}
		refused(t, "something stays", dir("", 7, file("a", 1)), []api.Change{root}, api.ErrDiffShape)
		refused(t, "something comes", dir("", 7), []api.Change{root, {Path: "a", New: dirValue(1)}}, api.ErrDiffShape)
		refused(t, "something is there", api.Node{Value: v}, []api.Change{{Path: "a", New: dirValue(1)}}, api.ErrDiffShape)
	}
}

// noPaths: texts that are no path.
func noPaths() []string {
	return []string{"/", "//", "a/", "/a", "a//b", ".", "..", "a/.", "a/../b", "./a", "a\x00b", "\x00", "a/\x00/b", strings.Repeat("n", 256), "a/" + strings.Repeat("n", 256), zs(65), zs(65) + "/", zs(300)}
}

func TestP13_2NoPaths(t *testing.T) {
	for _, p := range noPaths() {
		for _, c := range []api.Change{{Path: p, New: fileValue(1)}, {Path: p, Old: fileValue(1)}, {Path: p, Old: fileValue(1), New: linkValue(1)}} {
			refused(t, fmt.Sprintf("%.20q", p), dir("", 7), []api.Change{c}, api.ErrDiffOrder)
		}
	}
}

func TestP13_2Deep(t *testing.T) {
	for _, v := range []api.Value{fileValue(1), linkValue(1), dirValue(1)} {
		n := chain(dir("", 7), 63)
		taken(t, "64 names", n, []api.Change{{Path: zs(64), New: v}})
		refused(t, "65 names", n, []api.Change{{Path: zs(64), New: dirValue(7)}, {Path: zs(65), New: v}}, api.ErrDiffOrder)
		refused(t, "65 names alone", chain(dir("", 7), 64), []api.Change{{Path: zs(65), New: v}}, api.ErrDiffOrder)
		taken(t, "64 names, something there", chain(marked("", 7), 64), []api.Change{{Path: zs(64), Old: fileValue(7), New: v}})
	}
	taken(t, "64 names go", chain(file("", 1), 64), []api.Change{{Path: zs(64), Old: fileValue(1)}})
	var l []api.Change
	for i := range 64 {
		l = append(l, api.Change{Path: zs(i + 1), New: dirValue(i % 9)})
	}
	y := taken(t, "64 come", dir("", 7), l)
	taken(t, "64 go", y.Node(), Turn(l))
	taken(t, "the longest name", dir("", 7), []api.Change{{Path: strings.Repeat("n", 255), New: fileValue(1)}})
}

// come: a list in which files come at these paths.
func come(paths ...string) []api.Change {
	var l []api.Change
	for _, p := range paths {
		l = append(l, api.Change{Path: p, New: fileValue(1)})
	}
	return l
}

func TestP13_2Order(t *testing.T) {
	n := dir("", 7, dir("d", 7))
	for _, l := range [][]string{{"a", "b"}, {"a", "d/f", "d.x"}, {"d/f", "d!", "d.x"}, {"d/b", "d/c", "e", "ee"}, {"A", "a", "b", "\x7f", "\xff"}, {"d\x01", "d!"}, {"d/\x01", "d\x01"}} {
		taken(t, fmt.Sprintf("%q", l), n, come(l...))
		slices.Reverse(l)
		refused(t, fmt.Sprintf("%q", l), n, come(l...), api.ErrDiffOrder)
	}
	for _, l := range [][]string{{"a", "a"}, {"d/f", "d/f"}, {"a", "b", "b"}, {"a", "b", "a"}, {"d.x", "d/f"}, {"d!", "d/f"}, {"d.x", "d/f", "e"}, {"a", "c", "b", "e"}, {"b", "a", "c"}} {
		refused(t, fmt.Sprintf("%q", l), n, come(l...), api.ErrDiffOrder)
	}
	root := api.Change{Path: "", Old: dirValue(7), New: dirValue(6)}
	taken(t, "the root first", n, append([]api.Change{root}, come("a")...))
	refused(t, "the root last", n, append(come("a"), root), api.ErrDiffOrder)
	refused(t, "the root twice", n, []api.Change{root, {Path: "", Old: dirValue(6), New: dirValue(5)}}, api.ErrDiffOrder)
	refused(t, "a directory behind what is in it", dir("", 7), []api.Change{{Path: "d/f", New: fileValue(1)}, {Path: "d", New: dirValue(1)}}, api.ErrDiffOrder)
}

// A change that changes nothing: what it says may be there or not, and may be a value or not.
func TestP13_2NoChange(t *testing.T) {
	odd := api.Value{Mode: 3}
	n := dir("", 7, marked("a", 1), link("b", 1))
	for _, v := range []api.Value{nothing(), odd, fileValue(1), fileValue(2), linkValue(1), dirValue(7), dirValue(9)} {
		for _, p := range []string{"", "a", "b", "c"} {
			refused(t, p, n, []api.Change{{Path: p, Old: v, New: v}}, api.ErrDiffOrder)
		}
		refused(t, "behind a right one", n, []api.Change{{Path: "a", Old: fileValue(1)}, {Path: "b", Old: v, New: v}}, api.ErrDiffOrder)
		refused(t, "ahead of a right one", n, []api.Change{{Path: "a", Old: v, New: v}, {Path: "b", Old: linkValue(1)}}, api.ErrDiffOrder)
	}
}

// wrongBy: a value with one field changed.
func wrongBy(v api.Value) []api.Value {
	l := []api.Value{v, v, v, v, v, v}
	l[0].Mode++
	l[1].Size++
	l[2].Sum[0]++
	l[3].Sum[31]++
	l[4].Kind = v.Kind%3 + 1
	l[5].Mode = api.Unknown + 1
	return l
}

func TestP13_2Old(t *testing.T) {
	n := dir("", 7, marked("a", 1), dir("d", 5, file("f", 1)), link("l", 1))
	for p, v := range map[string]api.Value{"": dirValue(7), "a": fileValue(1), "d": dirValue(5), "d/f": fileValue(1), "l": linkValue(1)} {
		refused(t, p+": nothing for something", n, []api.Change{{Path: p, New: linkValue(4)}}, api.ErrDiffOld)
		refused(t, p+": nothing, and it is the same that is there", n, []api.Change{{Path: p, New: v}}, api.ErrDiffOld)
		for i, w := range wrongBy(v) {
			refused(t, fmt.Sprint(p, ": ", i), n, []api.Change{{Path: p, Old: w, New: linkValue(4)}}, api.ErrDiffOld)
			refused(t, fmt.Sprint(p, ", gone: ", i), n, []api.Change{{Path: p, Old: w}}, api.ErrDiffOld)
			refused(t, fmt.Sprint(p, ", to what is there: ", i), n, []api.Change{{Path: p, Old: w, New: v}}, api.ErrDiffOld)
		}
	}
	for _, p := range []string{"b", "a/f", "d/g", "d/f/g", "l/l", "x/y/z", zs(64)} {
		for _, v := range []api.Value{fileValue(1), dirValue(7), linkValue(1), {Mode: 1}, {Size: 1}, {Sum: [32]byte{1}}} {
			refused(t, p+": something for nothing", n, []api.Change{{Path: p, Old: v}}, api.ErrDiffOld)
			refused(t, p+": something for nothing", n, []api.Change{{Path: p, Old: v, New: fileValue(7)}}, api.ErrDiffOld)
		}
	}
}

// Old is asked of the tree that was handed in, not of what the changes ahead of it make.
func TestP13_2OldOfTheWhole(t *testing.T) {
	n := dir("", 7, dir("d", 5, file("f", 1)))
	refused(t, "what goes with its directory", n, []api.Change{{Path: "d", Old: dirValue(5)}, {Path: "d/f", New: linkValue(1)}}, api.ErrDiffOld)
	taken(t, "it is there until it is told to go", n, []api.Change{{Path: "d", Old: dirValue(5)}, {Path: "d/f", Old: fileValue(1)}})
}

// wrongValues: what no tree may hold.
func wrongValues() []api.Value {
	one := [32]byte{31: 1}
	return []api.Value{
		{Mode: 1}, {Mode: -1}, {Size: 1}, {Size: -1}, {Sum: one},
		{Kind: 4}, {Kind: -1}, {Kind: 4, Mode: 1, Size: 1, Sum: one},
		{Kind: api.Dir, Mode: -1}, {Kind: api.Dir, Mode: 9}, {Kind: api.Dir, Size: 1}, {Kind: api.Dir, Size: -1}, {Kind: api.Dir, Sum: one}, {Kind: api.Dir, Mode: 7, Sum: [32]byte{1}},
		{Kind: api.File, Mode: -1}, {Kind: api.File, Mode: 9}, {Kind: api.File, Size: -1}, {Kind: api.File, Size: api.MaxSize + 1},
		{Kind: api.Link}, {Kind: api.Link, Size: -1}, {Kind: api.Link, Size: api.MaxTarget + 1}, {Kind: api.Link, Size: 1, Mode: 1}, {Kind: api.Link, Size: 1, Mode: -1}, {Kind: api.Link, Size: 1, Mode: api.Unknown},
	}
}

// rightValues: the edges of what a tree may hold.
func rightValues() []api.Value {
	full := [32]byte{0: 0xFF, 31: 0xFF}
	return []api.Value{
		{Kind: api.Dir}, {Kind: api.Dir, Mode: 8},
		{Kind: api.File}, {Kind: api.File, Mode: 8, Size: api.MaxSize, Sum: full}, {Kind: api.File, Size: 1}, {Kind: api.File, Sum: full},
		{Kind: api.Link, Size: 1}, {Kind: api.Link, Size: api.MaxTarget, Sum: full},
	}
}

func TestP13_2New(t *testing.T) {
	n := dir("", 7, marked("a", 1), dir("d", 5, file("f", 1)), dir("e", 5), link("l", 1))
	for p, old := range map[string]api.Value{"": dirValue(7), "a": fileValue(1), "b": nothing(), "d": dirValue(5), "d/f": fileValue(1), "d/g": nothing(), "e": dirValue(5), "l": linkValue(1)} {
		for i, v := range wrongValues() {
			refused(t, fmt.Sprint(p, ": ", i), n, []api.Change{{Path: p, Old: old, New: v}}, api.ErrDiffShape)
		}
		for _, v := range rightValues() {
			if (p == "" || p == "d") && v.Kind != api.Dir {
				continue
			}
			taken(t, p, n, []api.Change{{Path: p, Old: old, New: v}})
		}
	}
}

func TestP13_2Shape(t *testing.T) {
	n := dir("", 7, marked("a", 1), dir("d", 5, dir("e", 7, file("g", 1)), file("f", 1)), link("l", 1))
	f, g := api.Change{Path: "d/f", Old: fileValue(1)}, api.Change{Path: "d/e/g", Old: fileValue(1)}
	e := api.Change{Path: "d/e", Old: dirValue(7)}
	for _, v := range []api.Value{nothing(), fileValue(2), linkValue(2)} {
		d := api.Change{Path: "d", Old: dirValue(5), New: v}
		refused(t, "all stays", n, []api.Change{d}, api.ErrDiffShape)
		refused(t, "a directory stays", n, []api.Change{d, f}, api.ErrDiffShape)
		refused(t, "a file stays", n, []api.Change{d, e, g}, api.ErrDiffShape)
		refused(t, "what is far below stays", n, []api.Change{d, e, f}, api.ErrDiffShape)
		refused(t, "a directory goes, its file stays", n, []api.Change{d, g, f}, api.ErrDiffShape)
		refused(t, "a file changes", n, []api.Change{d, e, g, {Path: "d/f", Old: fileValue(1), New: linkValue(1)}}, api.ErrDiffShape)
		refused(t, "a directory changes", n, []api.Change{d, {Path: "d/e", Old: dirValue(7), New: dirValue(6)}, g, f}, api.ErrDiffShape)
		refused(t, "another one comes", n, []api.Change{d, e, g, f, {Path: "d/h", New: fileValue(1)}}, api.ErrDiffShape)
		refused(t, "another one comes, ahead", n, []api.Change{d, {Path: "d/a", New: dirValue(1)}, e, g, f}, api.ErrDiffShape)
		taken(t, "none stays", n, []api.Change{d, e, g, f})
	}
	refused(t, "below a file", n, come("a/b"), api.ErrDiffShape)
	refused(t, "below a link", n, come("l/b"), api.ErrDiffShape)
	refused(t, "below nothing", n, come("x/b"), api.ErrDiffShape)
	refused(t, "far below nothing", n, come("d/x/y/z"), api.ErrDiffShape)
	refused(t, "below a file that comes", n, come("x", "x/b"), api.ErrDiffShape)
	refused(t, "below a file that goes", n, []api.Change{{Path: "a", Old: fileValue(1)}, {Path: "a/b", New: fileValue(1)}}, api.ErrDiffShape)
	refused(t, "below a link that becomes a file", n, []api.Change{{Path: "l", Old: linkValue(1), New: fileValue(1)}, {Path: "l/b", New: fileValue(1)}}, api.ErrDiffShape)
	taken(t, "below a link that becomes a directory", n, []api.Change{{Path: "l", Old: linkValue(1), New: dirValue(1)}, {Path: "l/b", New: fileValue(1)}})
	taken(t, "below a directory that comes", n, []api.Change{{Path: "x", New: dirValue(1)}, {Path: "x/b", New: fileValue(1)}})
	refused(t, "below a directory that comes behind it by name", n, []api.Change{{Path: "x/b", New: fileValue(1)}, {Path: "y", New: dirValue(1)}}, api.ErrDiffShape)
}

// Each error is asked of the whole list ahead of the next one, wherever it stands.
func TestP13_2WhichError(t *testing.T) {
	n := dir("", 7, marked("a", 1), dir("d", 5, file("f", 1)), link("l", 1))
	old := api.Change{Path: "a", Old: fileValue(2), New: fileValue(3)}
	shape := api.Change{Path: "d", Old: dirValue(5), New: fileValue(1)}
	value := api.Change{Path: "d/f", Old: fileValue(1), New: dirValue(9)}
	for _, c := range []struct {
		what string
		l    []api.Change
		want api.Errno
	}{
		{"old, shape", []api.Change{old, shape}, 131},
		{"shape, old", []api.Change{shape, {Path: "l", Old: linkValue(2)}}, 131},
		{"shape, value, old", []api.Change{shape, value, {Path: "q", Old: linkValue(2)}}, 131},
		{"old, no path", []api.Change{old, {Path: "b/", New: fileValue(1)}}, 130},
		{"old, shape, twice", []api.Change{old, shape, shape}, 130},
		{"shape, no change", []api.Change{shape, {Path: "l", Old: linkValue(1), New: linkValue(1)}}, 130},
		{"value, falls", []api.Change{value, {Path: "a", Old: fileValue(1)}}, 130},
		{"old, value, falls", []api.Change{old, value, {Path: "d", Old: dirValue(5)}}, 130},
		{"the root goes, old", []api.Change{{Path: "", Old: dirValue(7)}, old}, 131},
		{"the root goes, no change", []api.Change{{Path: "", Old: dirValue(7)}, {Path: "b"}}, 130},
		{"one change: no path, old, value", []api.Change{{Path: "..", Old: fileValue(2), New: dirValue(9)}}, 130},
		{"one change: old, value", []api.Change{{Path: "a", Old: fileValue(2), New: dirValue(9)}}, 131},
		{"one change: old, below a file", []api.Change{{Path: "a/b", Old: fileValue(2), New: fileValue(1)}}, 131},
		{"value, shape", []api.Change{shape, value}, 132},
	} {
		refused(t, c.what, n, c.l, c.want)
	}
}

// Wide and many: a list of many changes in one directory.
func TestP13_2Wide(t *testing.T) {
	n, u := dir("", 7), dir("", 7)
	for i := range 20000 {
		if i%3 > 0 {
			n.Kids = append(n.Kids, marked(fmt.Sprintf("n%05d", i), i%2))
		}
		if i%5 > 0 {
			u.Kids = append(u.Kids, file(fmt.Sprintf("n%05d", i), i%4))
		}
	}
	x := taken(t, "wide", n, plainOf(flat(n), flat(u)))
	if !tree.Same(x, of(t, u), false) {
		t.Error("another tree")
	}
}
