package recon

import (
	"fmt"
	"slices"
	"testing"

	"twine/api"
)

const root = "/ Both mode 7 1>1"

// things: what may stand at a path of a side.
func things() []api.Node {
	return []api.Node{
		{}, file("", 1), moded(file("", 1), 5), file("", 2), link("", 1),
		dir("", 7), dir("", 5), dir("", 7, file("f", 1)), dir("", 7, file("f", 2)), dir("", 7, file("f", 1), dir("g", 7, link("h", 1))),
	}
}

// oldThings: what may stand at a path of the archive.
func oldThings() []api.Node {
	return append(things(), moded(file("", 1), 8), dir("", 8), dir("", 8, moded(file("f", 1), 8)))
}

// at: a root with n as d; without, if n is nothing.
func at(n api.Node) api.Node {
	if n.Value.Kind == 0 {
		return top()
	}
	return top(named("d", n))
}

// nodes: how many n has, of nothing none.
func nodes(n api.Node) int {
	if n.Value.Kind == 0 {
		return 0
	}
	return len(flat(n))
}

// All of a few things at a path, on A, on B and in the archive; with what may be lost, held and preferred there.
func TestP14_2AllSmall(t *testing.T) {
	lost := []lists{{}, ofA("d"), ofB("d/f"), {{"d/g/h"}, {"d/q"}}}
	held := []lists{{}, ofA("", "d"), ofB("", "d"), {{"d", "d/g"}, {"d", "d/g"}}, ofB("d", "d/f", "d/g")}
	prefer := []string{"", "prefer a **", "prefer b *"}
	seen := map[int]int{}
	for i, a := range things() {
		for _, b := range things()[:i+1] {
			for _, o := range oldThings() {
				for k := range len(lost) * len(held) * len(prefer) {
					q := question{at(a), at(b), at(o), lost[k%4], held[k/4%5], prefer[k/20]}
					got := q.asked(t)
					wantCells(t, fmt.Sprintf("%+v", q), got, q.plainly(t))
					for _, c := range got {
						seen[c.What]++
					}
				}
			}
		}
	}
	for what := api.Agreed; what <= api.Kept; what++ {
		if seen[what] < 100 {
			t.Errorf("%d: %d times", what, seen[what])
		}
	}
}

func TestP14_2Random(t *testing.T) {
	a := newAuthor(2)
	seen := map[[2]int]int{}
	for i := range 12000 {
		q := a.question()
		got := q.asked(t)
		wantCells(t, fmt.Sprintf("%d: %+v", i, q), got, q.plainly(t))
		for _, c := range got {
			seen[[2]int{c.What, c.Side}]++
		}
	}
	for _, k := range [][2]int{{api.Agreed, 0}, {api.Both, 0}, {api.Both, 1}, {api.Both, 2}, {api.Carry, 1}, {api.Carry, 2}, {api.Conflict, 0}, {api.ModeConflict, 0}, {api.Kept, 1}, {api.Kept, 2}} {
		if seen[k] < 200 {
			t.Errorf("%d: %d times", k, seen[k])
		}
	}
	if len(seen) != 10 {
		t.Error(seen)
	}
}

// Children's names come of A, of B, of the archive and of what is lost, and rise; d/f stands ahead of d.x.
func TestP14_2Names(t *testing.T) {
	a := top(file("a", 1), dir("d", 7, file("f", 1)), file("d!", 1), file("d.x", 1))
	b := top(file("b", 1), dir("d", 7, file("g", 1)), dir("d0", 7), file("\xff", 1))
	o := top(file("c", 1), dir("d", 7, file("h", 1)), file("d-", 1), file("~", 1))
	question{a: a, b: b, o: o, lost: lists{{"e", "d/i", "\x01/x"}, {"d/!", "d\x01"}}}.want(t, "names", root,
		"\x01 Conflict 0>0", "a Carry A 0>1 1/1 over 0/0", "b Carry B 0>1 1/1 over 0/0", "c Agreed 1>0",
		"d Both mode 7 1>1", "d/! Conflict 0>0", "d/f Carry A 0>1 1/1 over 0/0", "d/g Carry B 0>1 1/1 over 0/0", "d/h Agreed 1>0", "d/i Conflict 0>0",
		"d\x01 Conflict 0>0", "d! Carry A 0>1 1/1 over 0/0", "d- Agreed 1>0", "d.x Carry A 0>1 1/1 over 0/0", "d0 Carry B 0>1 1/0 over 0/0",
		"e Conflict 0>0", "~ Agreed 1>0", "\xff Carry B 0>1 1/1 over 0/0")
	question{a: top(), b: top(), o: top()}.want(t, "nothing", root)
}

// What the archive has below what is no directory on both sides is gone with it; what it has as a file has no children.
func TestP14_2NamesOfTheArchive(t *testing.T) {
	full := dir("d", 7, file("f", 1), dir("g", 7, file("h", 1)))
	question{a: top(dir("d", 7)), b: top(dir("d", 7)), o: top(full)}.want(t, "both are empty", root, "d Both mode 7 1>1", "d/f Agreed 1>0", "d/g Agreed 2>0")
	question{a: top(), b: top(), o: top(full)}.want(t, "both have nothing", root, "d Agreed 4>0")
	question{a: top(file("d", 1)), b: top(file("d", 1)), o: top(full)}.want(t, "both have a file", root, "d Agreed 4>1")
	for _, o := range []api.Node{file("d", 1), link("d", 1)} {
		question{a: top(full), b: top(full), o: top(o)}.want(t, "the archive has a file", root, "d Both mode 7 1>1", "d/f Agreed 0>1", "d/g Both mode 7 0>1", "d/g/h Agreed 0>1")
	}
	question{a: top(full), b: top(full), o: top()}.want(t, "the archive has nothing", root, "d Both mode 7 0>1", "d/f Agreed 0>1", "d/g Both mode 7 0>1", "d/g/h Agreed 0>1")
}

// Rule 0: of a path that can't be read nothing is known, whatever stands there and whatever is preferred.
func TestP14_2LostItself(t *testing.T) {
	for _, a := range things() {
		for _, b := range things() {
			for _, text := range []string{"", "prefer a **", "prefer b d"} {
				for _, lost := range []lists{ofA("d"), ofB("d"), {{"d"}, {"d"}}, ofA("d", "d", "d"), ofB("d/f", "d"), {{"d"}, {"d/f/g"}}} {
					question{at(a), at(b), top(dir("d", 7, file("f", 1))), lost, lists{}, text}.want(t, "lost", root, "d Conflict 2>2")
					question{at(a), at(b), top(), lost, lists{{"d"}, {"d"}}, text}.want(t, "lost, held", root, "d Conflict 0>0")
				}
			}
		}
	}
}

func TestP14_2LostBelow(t *testing.T) {
	d, d1, d2 := dir("d", 7, file("f", 1)), dir("d", 7, file("f", 1), file("g", 1)), dir("d", 7, file("f", 2))
	o := top(d)
	for _, lost := range []lists{ofA("d/f"), ofB("d/f"), {{"d/f"}, {"d/f"}}, ofA("d/f", "d/f"), ofA("d/f/x"), {{"d/f/x/y"}, {"d/f/z"}}} {
		question{a: o, b: o, o: o, lost: lost, rules: "prefer a **"}.want(t, "directories on both sides", root, "d Both mode 7 1>1", "d/f Conflict 1>1")
		question{a: top(d1), b: top(d2), o: o, lost: lost, rules: "prefer a **"}.want(t, "and others beside it", root, "d Both mode 7 1>1", "d/f Conflict 1>1", "d/g Carry A 0>1 1/1 over 0/0")
		for _, n := range []api.Node{{}, file("", 1), link("", 1)} {
			question{a: o, b: at(n), o: o, lost: lost, rules: "prefer b **"}.want(t, "no directory on a side", root, "d Conflict 2>2")
			question{a: at(n), b: at(n), o: at(n), lost: lost, rules: "prefer a **"}.want(t, "no directory at all", root, fmt.Sprintf("d Conflict %d>%[1]d", nodes(n)))
		}
	}
	question{a: top(moded(d, 5)), b: o, o: o, lost: ofB("d/f")}.want(t, "the mode is told nonetheless", root, "d Both A mode 5 1>1", "d/f Conflict 1>1")
	question{a: top(moded(d, 5)), b: top(moded(d, 6)), o: o, lost: ofB("d/f")}.want(t, "so is a conflict of it", root, "d ModeConflict mode 7 1>1", "d/f Conflict 1>1")
}

func TestP14_2LostDeeper(t *testing.T) {
	o := top(dir("d", 7, dir("e", 7, file("f", 1)), file("g", 1)))
	in := "d Both mode 7 1>1"
	question{a: o, b: o, o: o, lost: ofA("d/e/f")}.want(t, "three names", root, in, "d/e Both mode 7 1>1", "d/e/f Conflict 1>1", "d/g Agreed 1>1")
	question{a: o, b: o, o: o, lost: lists{{"d/e/f"}, {"d/e"}}}.want(t, "and its directory", root, in, "d/e Conflict 2>2", "d/g Agreed 1>1")
	question{a: o, b: o, o: o, lost: lists{{"d/e/f", "d/g/x"}, {"d/e/h", "c"}}}.want(t, "several", root, "c Conflict 0>0", in, "d/e Both mode 7 1>1", "d/e/f Conflict 1>1", "d/e/h Conflict 0>0", "d/g Conflict 1>1")
	question{a: o, b: top(dir("d", 7, file("g", 1))), o: o, lost: ofA("d/e/f")}.want(t, "the directory is gone on the other side", root, in, "d/e Conflict 2>2", "d/g Agreed 1>1")
	question{a: o, b: top(dir("d", 7, file("g", 1))), o: o, lost: ofB("d/g")}.want(t, "its neighbour isn't touched by it", root, in, "d/e Carry B 2>0 0/0 over 2/1", "d/g Conflict 1>1")
}

func TestP14_2LostRoot(t *testing.T) {
	o := top(dir("d", 7, file("f", 1)), file("g", 1))
	for _, lost := range []lists{ofA(""), ofB(""), {{""}, {""}}, {{"d", ""}, {"q/r"}}, ofA("g", "", "d/f", "")} {
		for _, a := range []api.Node{dir("", 8), o, top()} {
			question{a: a, b: o, o: o, lost: lost, rules: "prefer a **"}.want(t, "a root", "/ Conflict 4>4")
		}
	}
	question{a: dir("", 8), b: dir("", 8), o: dir("", 8), lost: lists{{""}, {""}}}.want(t, "both, first", "/ Conflict 1>1")
}

func TestP14_2LostNowhere(t *testing.T) {
	o := top(dir("d", 7), file("f", 1))
	in, f := "d Both mode 7 1>1", "f Agreed 1>1"
	question{a: o, b: o, o: o, lost: ofB("x")}.want(t, "a name", root, in, f, "x Conflict 0>0")
	question{a: o, b: o, o: o, lost: ofB("x/y/z")}.want(t, "below nothing", root, in, f, "x Conflict 0>0")
	question{a: o, b: o, o: o, lost: ofB("f/y/z")}.want(t, "below a file", root, in, "f Conflict 1>1")
	question{a: o, b: o, o: o, lost: ofA("d/y/z")}.want(t, "below a name of a directory", root, in, "d/y Conflict 0>0", f)
	question{a: o, b: o, o: o, lost: lists{{"d.x/a", "x", "x", "x/y"}, {"x", "d.x"}}}.want(t, "more than once", root, in, "d.x Conflict 0>0", f, "x Conflict 0>0")
	question{a: top(link("l", 1)), b: top(link("l", 1)), o: top(), lost: ofA("l/q")}.want(t, "below a link", root, "l Conflict 0>0")
}

// What isn't right is passed over; 64 names are right, 65 aren't.
func TestP14_2LostNoPaths(t *testing.T) {
	o := top(dir("d", 7, file("f", 1)), link("l", 1))
	agreed := []string{root, "d Both mode 7 1>1", "d/f Agreed 1>1", "l Agreed 1>1"}
	for _, p := range noPaths() {
		question{a: o, b: o, o: o, lost: ofA(p)}.want(t, p, agreed...)
		question{a: o, b: o, o: o, lost: lists{{p, "l"}, {p, "d/f", p}}}.want(t, p+" among others", root, "d Both mode 7 1>1", "d/f Conflict 1>1", "l Conflict 1>1")
		question{a: top(), b: o, o: o, lost: lists{{p}, {p, p}}, held: lists{{p}, {p}}}.want(t, p+", both lists", root, "d Carry A 2>0 0/0 over 2/1", "l Carry A 1>0 0/0 over 1/0")
	}
	n := chain(dir("", 5), 64)
	for _, lost := range []lists{ofA(zs(64)), ofB(zs(64)), {{zs(65), zs(64)}, nil}} {
		got := question{a: n, b: n, o: n, lost: lost}.asked(t)
		if len(got) != 65 || told(got[64]) != fmt.Sprintf("%.20s..127 Conflict 1>1", zs(64)) {
			t.Error(toldAll(got))
		}
	}
	got := question{a: n, b: n, o: n, lost: ofA(zs(65))}.asked(t)
	if len(got) != 65 || slices.ContainsFunc(got, func(c api.Cell) bool { return c.What != api.Both }) {
		t.Error(toldAll(got))
	}
	question{a: top(), b: top(), o: top(), lost: ofB("q/" + zs(63))}.want(t, "64 names, none there", root, "q Conflict 0>0")
	question{a: top(), b: top(), o: top(), lost: ofB("q/" + zs(64))}.want(t, "65 names, none there", root)
}

// Rule 1 comes ahead of all that follow: two directories are gone through, even if they are the same, or one is as it was.
func TestP14_2BothFirst(t *testing.T) {
	d, e := dir("d", 7, file("f", 1)), dir("d", 7, file("f", 1), file("g", 1))
	in := "d Both mode 7 1>1"
	question{a: top(d), b: top(d), o: top(d)}.want(t, "the same", root, in, "d/f Agreed 1>1")
	question{a: top(e), b: top(d), o: top(d)}.want(t, "B as it was", root, in, "d/f Agreed 1>1", "d/g Carry A 0>1 1/1 over 0/0")
	question{a: top(e), b: top(d), o: top(file("d", 1)), rules: "prefer b d"}.want(t, "both changed, one is preferred", root, in, "d/f Agreed 0>1", "d/g Carry A 0>1 1/1 over 0/0")
}

// Rule 2 comes ahead of 3 to 5: what is the same on both sides is agreed on, whatever the archive has.
func TestP14_2Agreed(t *testing.T) {
	for _, n := range things() {
		if n.Value.Kind == api.Dir {
			continue
		}
		for _, o := range oldThings() {
			want := fmt.Sprintf("d Agreed %d>%d", nodes(o), nodes(n))
			if n.Value.Kind == 0 && o.Value.Kind == 0 {
				question{a: at(n), b: at(n), o: at(o)}.want(t, "nothing", root)
				continue
			}
			question{a: at(n), b: at(n), o: at(o), held: lists{{"d"}, {"d"}}, rules: "prefer a d"}.want(t, "agreed", root, want)
		}
	}
}

// Rules 3 and 4: the side that alone has changed is carried, whatever is preferred.
func TestP14_2OneSideChanged(t *testing.T) {
	for _, text := range []string{"", "prefer a *", "prefer b *"} {
		for i, c := range []struct {
			a, o api.Node
			want string
		}{
			{file("", 2), file("", 1), "1>1 1/2 over 1/1"},
			{moded(file("", 1), 5), file("", 1), "1>1 1/1 over 1/1"},
			{link("", 1), file("", 1), "1>1 1/0 over 1/1"},
			{file("", 1), link("", 1), "1>1 1/1 over 1/0"},
			{api.Node{}, file("", 1), "1>0 0/0 over 1/1"},
			{api.Node{}, link("", 1), "1>0 0/0 over 1/0"},
			{api.Node{}, dir("", 7), "1>0 0/0 over 1/0"},
			{api.Node{}, dir("", 7, file("f", 1), dir("g", 5, file("h", 4))), "4>0 0/0 over 4/5"},
			{file("", 3), dir("", 7, file("f", 1)), "2>1 1/3 over 2/1"},
			{dir("", 7, file("f", 1), file("g", 4)), link("", 3), "1>3 3/5 over 1/0"},
			{dir("", 7, file("f", 1), file("g", 4)), api.Node{}, "0>3 3/5 over 0/0"},
			{file("", 0), api.Node{}, "0>1 1/0 over 0/0"},
			{link("", 1), api.Node{}, "0>1 1/0 over 0/0"},
		} {
			question{a: at(c.a), b: at(c.o), o: at(c.o), rules: text}.want(t, fmt.Sprint(i), root, "d Carry A "+c.want)
			question{a: at(c.o), b: at(c.a), o: at(c.o), rules: text}.want(t, fmt.Sprint(i), root, "d Carry B "+c.want)
		}
	}
}

// Rule 5, both have changed.
func TestP14_2BothChanged(t *testing.T) {
	o := top(dir("d", 7, file("f", 1)))
	for i, c := range []struct {
		a, b    api.Node
		o       api.Node
		keep    int
		to, fro string // what A takes over B, and what B takes over A
	}{
		{file("", 2), file("", 3), file("", 1), 1, "1 1/2 over 1/3", "1 1/3 over 1/2"},
		{file("", 2), moded(file("", 1), 5), file("", 1), 1, "1 1/2 over 1/1", "1 1/1 over 1/2"},
		{api.Node{}, file("", 3), file("", 1), 1, "0 0/0 over 1/3", "1 1/3 over 0/0"},
		{file("", 2), file("", 3), api.Node{}, 0, "1 1/2 over 1/3", "1 1/3 over 1/2"},
		{dir("", 7, file("f", 5)), link("", 3), o.Kids[0], 2, "2 2/5 over 1/0", "1 1/0 over 2/5"},
		{dir("", 5, file("f", 1)), api.Node{}, o.Kids[0], 2, "2 2/1 over 0/0", "0 0/0 over 2/1"},
		{dir("", 7, file("f", 1), file("g", 0)), api.Node{}, o.Kids[0], 2, "3 3/1 over 0/0", "0 0/0 over 3/1"},
		{file("", 2), link("", 2), o.Kids[0], 2, "1 1/2 over 1/0", "1 1/0 over 1/2"},
	} {
		q := question{a: at(c.a), b: at(c.b), o: at(c.o)}
		conflict, a, b := fmt.Sprintf("d Conflict %d>%[1]d", c.keep), fmt.Sprintf("d Carry A %d>%s", c.keep, c.to), fmt.Sprintf("d Carry B %d>%s", c.keep, c.fro)
		for text, want := range map[string]string{
			"": conflict, "prefer a d/f\nprefer b e\nprefer a /d/*": conflict,
			"prefer a d": a, "prefer a *": a, "prefer b d\nprefer a /d\nprefer b e": a,
			"prefer b d": b, "prefer b **": b, "prefer a *\nprefer b /d": b,
		} {
			q.rules = text
			q.want(t, fmt.Sprint(i, " ", text), root, want)
		}
	}
}

// Rule 5, neither has changed: a mode that isn't known is as good as either one.
func TestP14_2NeitherChanged(t *testing.T) {
	f := func(mode int) api.Node { return top(moded(file("d", 1), mode)) }
	q := question{a: f(5), b: f(6), o: f(api.Unknown)}
	q.want(t, "a file", root, "d Conflict 1>1")
	q.rules = "prefer a d"
	q.want(t, "a file, A preferred", root, "d Carry A 1>1 1/1 over 1/1")
	q.rules = "prefer b d"
	q.want(t, "a file, B preferred", root, "d Carry B 1>1 1/1 over 1/1")
	question{a: f(5), b: f(5), o: f(api.Unknown)}.want(t, "the same mode", root, "d Agreed 1>1")
	question{a: f(5), b: top(moded(file("d", 2), 5)), o: f(api.Unknown)}.want(t, "other bytes", root, "d Carry B 1>1 1/2 over 1/1")
	question{a: top(), b: top(dir("d", 5, moded(file("f", 1), 3))), o: top(dir("d", 8, moded(file("f", 1), 8)))}.want(t, "a directory that went", root, "d Carry A 2>0 0/0 over 2/1")
}

// A mode that the archive has as unknown is the same as any; one that a side had as unknown would not be.
func TestP14_2UnknownIsTheArchives(t *testing.T) {
	known := top(moded(file("d", 1), 5))
	question{a: top(), b: top(moded(file("d", 1), 8)), o: known}.want(t, "a side's", root, "d Conflict 1>1")
	question{a: top(moded(file("d", 1), 8)), b: known, o: known}.want(t, "a side's", root, "d Carry A 1>1 1/1 over 1/1")
}

// Marks are no part of a value: two trees that differ by them alone are the same.
func TestP14_2Marks(t *testing.T) {
	n := func(number int) api.Node {
		return top(dir("d", 7, marked(file("f", 1), number)), marked(file("e", 2), number+7))
	}
	plainly := top(dir("d", 7, file("f", 1)), file("e", 2))
	for _, o := range []api.Node{plainly, n(9), n(100)} {
		question{a: n(1), b: n(3), o: o}.want(t, "both", root, "d Both mode 7 1>1", "d/f Agreed 1>1", "e Agreed 1>1")
		question{a: top(), b: n(3), o: o}.want(t, "A went", root, "d Carry A 2>0 0/0 over 2/1", "e Carry A 1>0 0/0 over 1/2")
		question{a: n(1), b: plainly, o: top(file("e", 1))}.want(t, "the archive has others", root, "d Both mode 7 0>1", "d/f Agreed 0>1", "e Agreed 1>1")
	}
}

// Roots that are no directories aren't asked for; the rules hold for them as for any path.
func TestP14_2OtherRoots(t *testing.T) {
	question{a: file("", 1), b: top(), o: top()}.want(t, "a file", "/ Carry A 1>1 1/1 over 1/0")
	question{a: link("", 1), b: link("", 1), o: top()}.want(t, "links", "/ Agreed 1>1")
	question{a: top(file("a", 1)), b: top(), o: file("", 1)}.want(t, "the archive's", root, "a Carry A 0>1 1/1 over 0/0")
}
