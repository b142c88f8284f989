package diff

import (
	"slices"
	"sync"
	"testing"

	"twine/api"
)

// roomy: a list with spare room behind it, in which something stands.
func roomy(l []api.Change) []api.Change {
	room := slices.Concat(l, come("q1", "q2", "q3"))
	return room[:len(l)]
}

// whole: a list with its spare room.
func whole(l []api.Change) []api.Change { return slices.Clone(l[:cap(l)]) }

// scrawl writes over a list, and over the room behind it.
func scrawl(l []api.Change) {
	l = l[:cap(l)]
	for i := range l {
		l[i] = api.Change{Path: "scrawl", Old: dirValue(9), New: linkValue(1)}
	}
}

// other: a tree that some differs from in many ways.
func other() api.Node { return dir("", 5, marked("d", 7), dir("q", 7, file("f", 1))) }

// What is handed in stays, the room behind it too.
func TestP13_2HandedInStays(t *testing.T) {
	x := of(t, some())
	for _, l := range [][]api.Change{
		roomy(plainOf(flat(some()), flat(other()))), roomy(come("a", "a")), roomy(come("a")), roomy(come("e/x", "n/x")), roomy(nil),
	} {
		was := whole(l)
		Apply(x, l)
		wantList(t, "Apply", whole(l), was)
	}
	holds(t, "t", x, flat(some()))
}

func TestP13_3HandedInStays(t *testing.T) {
	l := roomy(plainOf(flat(some()), flat(other())))
	was := whole(l)
	Turn(l)
	wantList(t, "Turn", whole(l), was)
}

func TestP13_4HandedInStays(t *testing.T) {
	a, b := roomy(plainOf(flat(some()), flat(other()))), roomy(plainOf(flat(other()), flat(dir("", 3, link("d", 1)))))
	one, two := whole(a), whole(b)
	Then(a, b)
	Then(b, a)
	Then(a, nil)
	Then(nil, b)
	Then(a, a)
	wantList(t, "the first", whole(a), one)
	wantList(t, "the second", whole(b), two)
}

// What is handed in may be written over behind the call.
func TestP13_2WrittenOver(t *testing.T) {
	x, l := of(t, some()), plainOf(flat(some()), flat(other()))
	want, _ := plainApply(flat(some()), l)
	y, e := Apply(x, l)
	if e != api.OK {
		t.Fatal(e)
	}
	it := Of(x, y)
	scrawl(l)
	holds(t, "what Apply answered", y, want)
	holds(t, "t", x, flat(some()))
	wantList(t, "an iterator from ahead of it", slices.Collect(it), plainOf(flat(some()), want))
}

func TestP13_3WrittenOver(t *testing.T) {
	l := plainOf(flat(some()), flat(other()))
	want := plainOf(flat(other()), flat(some()))
	got := Turn(l)
	scrawl(l)
	wantList(t, "what Turn answered", got, want)
}

func TestP13_4WrittenOver(t *testing.T) {
	full := plainOf(flat(some()), flat(other()))
	third := dir("", 3, link("d", 1))
	for i, c := range [][2][]api.Change{{full, plainOf(flat(other()), flat(third))}, {full, nil}, {nil, full}} {
		a, b := roomy(c[0]), roomy(c[1])
		want, _ := plainThen(a, b)
		got, e := Then(a, b)
		scrawl(a)
		scrawl(b)
		if e != api.OK {
			t.Errorf("%d: %d", i, e)
		}
		wantList(t, "what Then answered", got, want)
	}
}

// What is handed out may be written over: neither what was handed in, nor trees, nor later answers are touched by it.
func TestP13_3HandedOut(t *testing.T) {
	l := roomy(plainOf(flat(some()), flat(other())))
	was := whole(l)
	one, two := Turn(l), Turn(l)
	scrawl(one)
	wantList(t, "another answer", two, plainOf(flat(other()), flat(some())))
	wantList(t, "what was handed in", whole(l), was)
	wantList(t, "a later one", Turn(l), two)
}

func TestP13_4HandedOut(t *testing.T) {
	full := plainOf(flat(some()), flat(other()))
	for _, c := range [][2][]api.Change{{full, plainOf(flat(other()), flat(dir("", 3)))}, {full, nil}, {nil, full}} {
		a, b := roomy(c[0]), roomy(c[1])
		wasA, wasB := whole(a), whole(b)
		want, _ := plainThen(a, b)
		one, _ := Then(a, b)
		two, _ := Then(a, b)
		scrawl(one)
		wantList(t, "another answer", two, want)
		wantList(t, "the first list", whole(a), wasA)
		wantList(t, "the second list", whole(b), wasB)
		three, _ := Then(a, b)
		wantList(t, "a later one", three, want)
	}
}

func TestP13_1HandedOut(t *testing.T) {
	x, y := of(t, some()), of(t, other())
	it, want := Of(x, y), plainOf(flat(some()), flat(other()))
	l := slices.Collect(it)
	z, e := Apply(x, l)
	if e != api.OK {
		t.Fatal(e)
	}
	scrawl(l)
	wantList(t, "gone through again", slices.Collect(it), want)
	wantList(t, "what was made by it", all(x, z), want)
	holds(t, "t", x, flat(some()))
	holds(t, "u", y, flat(other()))
}

// All of it at once, on one tree and one list.
func TestP13_2AtOnce(t *testing.T) {
	x, l := of(t, some()), plainOf(flat(some()), flat(other()))
	var group sync.WaitGroup
	wrong := make([]bool, 8)
	for i := range wrong {
		group.Go(func() {
			for range 20 {
				y, e := Apply(x, l)
				back := Turn(l)
				none, f := Then(l, back)
				z, g := Apply(y, back)
				if e != api.OK || f != api.OK || g != api.OK || len(none) != 0 || len(all(x, z)) != 0 || !slices.Equal(all(x, y), l) {
					wrong[i] = true
				}
				scrawl(back)
			}
		})
	}
	group.Wait()
	if slices.Contains(wrong, true) {
		t.Error("someone saw another thing")
	}
}
