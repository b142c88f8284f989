package recon

import (
	"fmt"
	"testing"

	"twine/api"
)

// d: a root with a directory d.
func d(kids ...api.Node) api.Node { return top(dir("d", 7, kids...)) }

const (
	keptA = "d Kept A mode 7 1>1"
	keptB = "d Kept B mode 7 1>1"
)

// A held directory stays where the other side has nothing, if the archive has a directory there, whatever it has in it.
func TestP14_4Kept(t *testing.T) {
	f, g := file("f", 1), file("f", 2)
	for _, text := range []string{"", "prefer a **", "prefer b d"} {
		question{a: d(), b: top(), o: d(), held: ofA("d"), rules: text}.want(t, "empty", root, keptA)
		question{a: top(), b: d(), o: d(), held: ofB("", "d"), rules: text}.want(t, "B's", root, keptB)
		question{a: top(dir("d", 3)), b: top(), o: d(), held: ofA("d"), rules: text}.want(t, "another mode", root, keptA)
		question{a: d(), b: top(), o: top(dir("d", 8)), held: ofA("d"), rules: text}.want(t, "an unknown one", root, "d Kept A mode 8 1>1")
		question{a: d(f), b: top(), o: d(f), held: ofA("d"), rules: text}.want(t, "in it a file as it was", root, keptA, "d/f Carry B 1>0 0/0 over 1/1")
		question{a: d(), b: top(), o: d(f), held: ofA("d"), rules: text}.want(t, "in it a file that went", root, keptA, "d/f Agreed 1>0")
		question{a: d(f), b: top(), o: d(), held: ofA("d"), rules: text}.want(t, "in it a file that came", root, keptA, "d/f Conflict 0>0")
	}
	q := question{a: d(g), b: top(), o: d(f), held: ofA("d")}
	q.want(t, "in it a file that changed", root, keptA, "d/f Conflict 1>1")
	q.rules = "prefer a d/f\nprefer b d"
	q.want(t, "it is preferred", root, keptA, "d/f Conflict 1>1")
	q.rules = "prefer a d\nprefer b d/f"
	q.want(t, "its going is preferred", root, keptA, "d/f Carry B 1>0 0/0 over 1/2")
}

// It isn't kept: not held there, no directory, something on the other side, no directory in the archive, something unreadable in it.
func TestP14_4NotKept(t *testing.T) {
	f := file("f", 1)
	went := "d Carry B 2>0 0/0 over 2/1"
	question{a: d(f), b: top(), o: d(f)}.want(t, "nothing is held", root, went)
	question{a: d(f), b: top(), o: d(f), held: ofA("", "d.x", "dd", "d/f", "d/")}.want(t, "others are held", root, went)
	question{a: d(f), b: top(), o: d(f), held: ofB("", "d")}.want(t, "the other side is held", root, went)
	for _, o := range []api.Node{file("", 1), link("", 1)} {
		question{a: d(f), b: top(), o: at(o), held: ofA("d")}.want(t, "the archive's is no directory", root, "d Conflict 1>1")
		question{a: d(f), b: top(), o: at(o), held: ofA("d"), rules: "prefer b *"}.want(t, "its going is preferred", root, "d Conflict 1>1")
		question{a: d(f), b: top(), o: at(o), held: ofA("d"), rules: "prefer a *"}.want(t, "it is preferred", root, "d Carry A 1>2 2/1 over 0/0")
	}
	question{a: d(f), b: top(), o: top(), held: ofA("d")}.want(t, "the archive has nothing", root, "d Carry A 0>2 2/1 over 0/0")
	question{a: d(f), b: top(file("d", 1)), o: d(f), held: ofA("d"), rules: "prefer b *"}.want(t, "a file on the other side", root, "d Conflict 2>2")
	question{a: d(f), b: top(link("d", 1)), o: d(f), held: ofA("d")}.want(t, "a link on the other side", root, "d Conflict 2>2")
	question{a: d(f), b: d(), o: d(f), held: ofA("d")}.want(t, "a directory on the other side", root, "d Both mode 7 1>1", "d/f Carry B 1>0 0/0 over 1/1")
	for _, lost := range []lists{ofA("d"), ofB("d"), ofA("d/f"), ofB("d/q/r")} {
		question{a: d(f), b: top(), o: d(f), lost: lost, held: ofA("d"), rules: "prefer a *"}.want(t, "something is unreadable", root, "d Conflict 2>2")
	}
	question{a: d(f), b: top(), o: d(f), lost: ofB("e"), held: ofA("d")}.want(t, "something else is unreadable", root, keptA, "d/f Carry B 1>0 0/0 over 1/1", "e Conflict 0>0")
}

// Nothing is carried over a side that is held there, whatever stands there and whatever is preferred.
func TestP14_4NothingGoesOverHeld(t *testing.T) {
	for i, c := range []struct {
		a, b, o api.Node
		keep    int
	}{
		{file("", 1), dir("", 7), dir("", 7), 1},
		{link("", 1), dir("", 7, file("f", 1)), dir("", 7, file("f", 1)), 2},
		{file("", 2), dir("", 7, file("f", 1)), api.Node{}, 0},
		{file("", 2), file("", 1), file("", 1), 1},
		{dir("", 7), file("", 1), file("", 1), 1},
		{api.Node{}, file("", 1), file("", 1), 1},
		{api.Node{}, link("", 1), link("", 1), 1},
		{file("", 1), api.Node{}, api.Node{}, 0},
		{dir("", 7, file("f", 1)), api.Node{}, api.Node{}, 0},
	} {
		q := question{a: at(c.a), b: at(c.b), o: at(c.o)}
		for _, text := range []string{"", "prefer a *"} {
			q.rules = text
			q.held = ofB("", "d")
			q.want(t, fmt.Sprint(i, ", held"), root, fmt.Sprintf("d Conflict %d>%[1]d", c.keep))
			q.held = ofB("", "d.x", "e", "d/f")
			if got := q.asked(t); got[1].What == api.Conflict && (text != "" || i != 2) {
				t.Errorf("%d: %s, held elsewhere", i, told(got[1]))
			}
		}
		q.held, q.rules = lists{{"d"}, nil}, "prefer a *"
		if got := q.asked(t); got[1].What != api.Carry || got[1].Side != api.SideA {
			t.Errorf("%d: %s, A is held alone", i, told(got[1]))
		}
	}
}

// Rule 5 says one side, and the other one isn't taken in its stead.
func TestP14_4HeldAndPreferred(t *testing.T) {
	q := question{a: top(file("d", 2)), b: d(file("f", 2)), o: d(file("f", 1)), held: ofB("d")}
	q.want(t, "none preferred", root, "d Conflict 2>2")
	q.rules = "prefer a d"
	q.want(t, "A preferred, B held", root, "d Conflict 2>2")
	q.rules = "prefer b d"
	q.want(t, "B preferred, B held", root, "d Carry B 2>2 2/2 over 1/2")
	q.held = lists{{"d"}, {"d"}}
	q.want(t, "B preferred, both held", root, "d Conflict 2>2")
}

// A path is held, whatever stands there, but to be kept a directory must stand there.
func TestP14_4HeldNoDirectory(t *testing.T) {
	for _, n := range []api.Node{file("", 3), link("", 3)} {
		question{a: at(n), b: top(), o: d(file("f", 1)), held: ofA("d"), rules: "prefer b d"}.want(t, "no directory", root, "d Conflict 2>2")
		question{a: at(n), b: top(), o: d(file("f", 1)), held: ofA("d"), rules: "prefer a d"}.want(t, "it may be carried", root, fmt.Sprintf("d Carry A 2>1 1/%d over 0/0", 3*(3-n.Value.Kind)))
		question{a: at(n), b: top(), o: at(n), held: ofA("d")}.want(t, "its going", root, "d Conflict 1>1")
	}
	question{a: top(), b: d(), o: top(), held: ofA("d")}.want(t, "nothing stands there", root, "d Conflict 0>0")
	question{a: top(), b: d(), o: d(), held: ofA("d")}.want(t, "nothing stands there any more", root, "d Carry A 1>0 0/0 over 1/0")
	question{a: top(), b: d(), o: d(), held: lists{{"d"}, {"d"}}}.want(t, "held on both, there on one", root, keptB)
}

// Below a kept directory nothing is carried to the side that has it not; what went there may go here.
func TestP14_4BelowKept(t *testing.T) {
	was := dir("d", 7, file("as", 1), file("changed", 1), dir("dir", 7, file("f", 1)), file("gone", 1), link("link", 1))
	is := dir("d", 7, file("as", 1), file("changed", 2), dir("dir", 7, file("f", 1)), link("link", 1), file("new", 5), dir("newdir", 7, file("f", 1)))
	q := question{a: top(is), b: top(), o: top(was), held: ofA("", "d")}
	as, dir, link := "d/as Carry B 1>0 0/0 over 1/1", "d/dir Carry B 2>0 0/0 over 2/1", "d/link Carry B 1>0 0/0 over 1/0"
	gone, fresh, freshDir := "d/gone Agreed 1>0", "d/new Conflict 0>0", "d/newdir Conflict 0>0"
	q.want(t, "no rule", root, keptA, as, "d/changed Conflict 1>1", dir, gone, link, fresh, freshDir)
	q.rules = "prefer a **"
	q.want(t, "A preferred", root, keptA, as, "d/changed Conflict 1>1", dir, gone, link, fresh, freshDir)
	q.rules = "prefer b **"
	q.want(t, "B preferred", root, keptA, as, "d/changed Carry B 1>0 0/0 over 1/2", dir, gone, link, fresh, freshDir)
	q.held = ofA("d", "d/as", "d/changed", "d/gone", "d/dir/f")
	q.want(t, "held below it", root, keptA, "d/as Conflict 1>1", "d/changed Conflict 1>1", dir, gone, link, fresh, freshDir)
	q.held = lists{{"d"}, {"d", "d/as", "d/dir"}}
	q.want(t, "held on the other side, too", root, keptA, as, "d/changed Carry B 1>0 0/0 over 1/2", dir, gone, link, fresh, freshDir)
}

// Kinds that changed below a kept directory.
func TestP14_4BelowKeptKinds(t *testing.T) {
	is := d(file("a", 2), dir("b", 7, file("f", 1)), link("c", 1))
	was := d(dir("a", 7, file("f", 1)), file("b", 1), moded(file("c", 1), 8))
	q := question{a: top(), b: is, o: was, held: ofB("d")}
	conflicts := []string{root, keptB, "d/a Conflict 2>2", "d/b Conflict 1>1", "d/c Conflict 1>1"}
	q.want(t, "no rule", conflicts...)
	q.rules = "prefer b *"
	q.want(t, "B preferred", conflicts...)
	q.rules = "prefer a *"
	q.want(t, "A preferred", root, keptB, "d/a Carry A 2>0 0/0 over 1/2", "d/b Carry A 1>0 0/0 over 2/1", "d/c Carry A 1>0 0/0 over 1/0")
	q.held = ofB("d", "d/b")
	q.want(t, "a held directory where the archive has a file", root, keptB, "d/a Carry A 2>0 0/0 over 1/2", "d/b Conflict 1>1", "d/c Carry A 1>0 0/0 over 1/0")
}

func TestP14_4KeptInKept(t *testing.T) {
	inner := func(mode int, kids ...api.Node) api.Node { return d(dir("e", mode, kids...), file("f", 1)) }
	was := inner(5, file("as", 1), dir("x", 3))
	q := question{a: inner(7, file("as", 1), file("new", 4), dir("x", 3)), b: top(), o: was, held: ofA("", "d", "d/e"), rules: "prefer a **"}
	f := "d/f Carry B 1>0 0/0 over 1/1"
	q.want(t, "two levels", root, keptA, "d/e Kept A mode 5 1>1", "d/e/as Carry B 1>0 0/0 over 1/1", "d/e/new Conflict 0>0", "d/e/x Carry B 1>0 0/0 over 1/0", f)
	q.held = ofA("d", "d/e", "d/e/x")
	q.want(t, "three levels", root, keptA, "d/e Kept A mode 5 1>1", "d/e/as Carry B 1>0 0/0 over 1/1", "d/e/new Conflict 0>0", "d/e/x Kept A mode 3 1>1", f)
	q.held = ofA("d", "d/e/x")
	q.want(t, "not the one between", root, keptA, "d/e Conflict 3>3", f)
	q.rules = "prefer b **"
	q.want(t, "its going is preferred", root, keptA, "d/e Carry B 3>0 0/0 over 4/5", f)
	q.o = d(file("f", 1))
	q.held = ofA("d", "d/e")
	q.want(t, "the archive has nothing there", root, keptA, "d/e Conflict 0>0", f)
	q.o = d(dir("e", 8), file("f", 1))
	q.want(t, "its mode isn't known", root, keptA, "d/e Kept A mode 8 1>1", "d/e/as Conflict 0>0", "d/e/new Conflict 0>0", "d/e/x Conflict 0>0", f)
}

// Beside a kept directory all goes as ever.
func TestP14_4BesideKept(t *testing.T) {
	a := top(dir("d", 7, file("f", 1)), file("d.x", 2), file("e", 1), dir("g", 7, file("h", 9)))
	b := top(dir("g", 7), file("n", 1))
	o := top(dir("d", 7), file("d.x", 1), dir("g", 7))
	question{a: a, b: b, o: o, held: ofA("d", "g")}.want(t, "beside", root, keptA, "d/f Conflict 0>0", "d.x Conflict 1>1", "e Carry A 0>1 1/1 over 0/0", "g Both mode 7 1>1", "g/h Carry A 0>1 1/9 over 0/0", "n Carry B 0>1 1/1 over 0/0")
}

// What is held on the side that is carried from doesn't matter.
func TestP14_4HeldSource(t *testing.T) {
	question{a: d(file("f", 1)), b: top(), o: top(), held: ofA("", "d", "d/f")}.want(t, "new", root, "d Carry A 0>2 2/1 over 0/0")
	question{a: d(file("f", 1)), b: top(file("d", 2)), o: top(file("d", 2)), held: ofA("d")}.want(t, "over a file", root, "d Carry A 1>2 2/1 over 1/2")
}

func TestP14_4HeldNoPaths(t *testing.T) {
	f := file("f", 1)
	for _, p := range noPaths() {
		question{a: d(f), b: top(), o: d(f), held: ofA(p)}.want(t, p, root, "d Carry B 2>0 0/0 over 2/1")
		question{a: d(f), b: top(), o: d(f), held: lists{{p, "d", p}, {p}}}.want(t, p+" among others", root, keptA, "d/f Carry B 1>0 0/0 over 1/1")
	}
	question{a: d(f), b: top(), o: d(f), held: ofA("d", "", "d", "d")}.want(t, "more than once", root, keptA, "d/f Carry B 1>0 0/0 over 1/1")
	var held []string
	for i := range 66 {
		held = append(held, zs(65-i))
	}
	n := chain(dir("", 5), 64)
	got := question{a: n, b: dir("", 5), o: n, held: ofA(held...)}.asked(t)
	if len(got) != 65 || got[64].What != api.Kept || got[64].Path != zs(64) {
		t.Error(toldAll(got))
	}
}

// A rule prefers at the path that it matches, not below it.
func TestP14_4Prefer(t *testing.T) {
	q := question{a: d(file("f", 2), file("g", 2)), b: d(file("f", 3), file("g", 3)), o: d(file("f", 1))}
	in := "d Both mode 7 1>1"
	f, g := "d/f Conflict 1>1", "d/g Conflict 0>0"
	fa, fb, gb := "d/f Carry A 1>1 1/2 over 1/3", "d/f Carry B 1>1 1/3 over 1/2", "d/g Carry B 0>1 1/3 over 1/2"
	for text, want := range map[string][2]string{
		"": {f, g}, "prefer a d": {f, g}, "prefer a /f": {f, g}, "prefer a f": {fa, g}, "prefer b d/f": {fb, g},
		"prefer a *\nprefer b g": {fa, gb}, "prefer b *\nprefer a d/f": {fa, gb}, "prefer a d/f\nprefer b d/*": {fb, gb}, "skip f\nprefer b g": {f, gb},
	} {
		q.rules = text
		q.want(t, text, root, in, want[0], want[1])
	}
}
