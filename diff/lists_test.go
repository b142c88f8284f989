package diff

import (
	"fmt"
	"slices"
	"testing"

	"twine/api"
)

func TestP13_3Turn(t *testing.T) {
	odd := api.Value{Kind: 9, Mode: -1, Size: 4, Sum: [32]byte{5}}
	l := []api.Change{{Path: "b", Old: fileValue(1), New: odd}, {Path: "a/", New: dirValue(7)}, {Path: "a/", Old: linkValue(1)}, {}, {Path: zs(99), Old: odd, New: odd}}
	given := slices.Clone(l)
	want := []api.Change{{Path: "b", Old: odd, New: fileValue(1)}, {Path: "a/", Old: dirValue(7)}, {Path: "a/", New: linkValue(1)}, {}, {Path: zs(99), Old: odd, New: odd}}
	wantList(t, "turned", Turn(l), want)
	wantList(t, "twice", Turn(Turn(l)), l)
	wantList(t, "what was handed in", l, given)
}

func TestP13_3NoChanges(t *testing.T) {
	if len(Turn(nil)) != 0 || len(Turn([]api.Change{})) != 0 {
		t.Error("changes of none")
	}
}

// All that two lists can say of two paths, values of which some are no values too: Then asks no tree.
func TestP13_4AllSmallLists(t *testing.T) {
	values := []api.Value{nothing(), fileValue(1), dirValue(9)}
	var one [][]api.Change
	for i := range 9 {
		one = append(one, []api.Change{{Path: "d", Old: values[i%3], New: values[i/3]}})
	}
	lists := append([][]api.Change{nil}, one...)
	for i := range 9 {
		second := []api.Change{{Path: "d/f", Old: values[i%3], New: values[i/3]}}
		lists = append(lists, second)
		for _, first := range one {
			lists = append(lists, slices.Concat(first, second), slices.Concat(second, first))
		}
	}
	for i, a := range lists {
		for j, b := range lists {
			joined(t, fmt.Sprint(i, " then ", j), a, b)
		}
	}
}

func TestP13_4RandomLists(t *testing.T) {
	a := newAuthor(4)
	seen := map[api.Errno]int{}
	for i := range 4000 {
		n, u, w := flat(a.tree(3)), flat(a.tree(3)), flat(a.tree(3))
		one, other := plainOf(n, u), plainOf(u, w)
		switch a.Intn(4) {
		case 0:
			one = a.spoil(one)
		case 1:
			other = a.spoil(other)
		}
		_, e := joined(t, fmt.Sprint("lists ", i), one, other)
		seen[e]++
	}
	for _, e := range []api.Errno{api.OK, api.ErrDiffOrder, api.ErrDiffOld} {
		if seen[e] < 200 {
			t.Errorf("%d: %d times", e, seen[e])
		}
	}
}

func TestP13_4Joined(t *testing.T) {
	f, g, h := fileValue(1), fileValue(2), fileValue(3)
	a := []api.Change{{Path: "", Old: dirValue(7), New: dirValue(6)}, {Path: "b", Old: f, New: g}, {Path: "c", Old: f, New: g}, {Path: "d", New: g}, {Path: "d/f", New: h}, {Path: "e", Old: f}, {Path: "g", New: f}}
	b := []api.Change{{Path: "", Old: dirValue(6), New: dirValue(7)}, {Path: "a", New: f}, {Path: "b", Old: g, New: h}, {Path: "c", Old: g, New: f}, {Path: "d", Old: g}, {Path: "d.x", New: f}, {Path: "e", New: f}, {Path: "g", Old: f, New: h}}
	l, e := Then(a, b)
	if e != api.OK {
		t.Fatal(e)
	}
	wantList(t, "joined", l, []api.Change{{Path: "a", New: f}, {Path: "b", Old: f, New: h}, {Path: "d/f", New: h}, {Path: "d.x", New: f}, {Path: "g", New: h}})
}

// The empty list and nil, on either side: the other list is answered.
func TestP13_4NoChanges(t *testing.T) {
	l := plainOf(flat(some()), flat(dir("", 5, file("d", 1))))
	for _, none := range [][]api.Change{nil, {}} {
		one, e := Then(l, none)
		other, f := Then(none, l)
		neither, g := Then(none, none)
		if e != api.OK || f != api.OK || g != api.OK || len(neither) != 0 {
			t.Errorf("%d, %d, %d", e, f, g)
		}
		wantList(t, "none behind", one, l)
		wantList(t, "none ahead", other, l)
	}
}

func TestP13_4Order(t *testing.T) {
	right := come("a", "d/f", "d.x")
	wrong := map[string][]api.Change{
		"falls":                      come("d.x", "a"),
		"rises as texts":             come("d.x", "d/f"),
		"twice":                      come("a", "a"),
		"no change":                  {{Path: "q", Old: fileValue(1), New: fileValue(1)}},
		"nothing for nothing":        {{Path: "q"}},
		"65 names":                   come(zs(65)),
		"the last one falls":         come("b", "c", "b"),
		"the last one is no change":  append(come("b", "c"), api.Change{Path: "d"}),
		"a directory behind its own": come("d/f", "d"),
	}
	for _, p := range noPaths() {
		wrong[fmt.Sprintf("%.20q", p)] = come(p)
	}
	for what, l := range wrong {
		for _, pair := range [][2][]api.Change{{l, nil}, {nil, l}, {l, right}, {right, l}, {l, l}} {
			if _, e := joined(t, what, pair[0], pair[1]); e != api.ErrDiffOrder {
				t.Errorf("%s: %d", what, e)
			}
		}
	}
	if _, e := joined(t, "64 names", come(zs(64)), nil); e != api.OK {
		t.Error(e)
	}
}

func TestP13_4Old(t *testing.T) {
	for _, v := range []api.Value{dirValue(7), fileValue(1), linkValue(1)} {
		a := []api.Change{{Path: "p", New: v}}
		for i, w := range append(wrongBy(v), nothing()) {
			b := []api.Change{{Path: "p", Old: w, New: fileValue(9)}}
			if _, e := joined(t, fmt.Sprint(i), a, b); e != api.ErrDiffOld {
				t.Errorf("%d: %d", i, e)
			}
			long := append(come("a", "b"), a...)
			if _, e := joined(t, fmt.Sprint(i), long, append(come("c"), b...)); e != api.ErrDiffOld {
				t.Errorf("%d, behind others: %d", i, e)
			}
		}
		if _, e := joined(t, "the right one", a, []api.Change{{Path: "p", Old: v, New: fileValue(9)}}); e != api.OK {
			t.Error(e)
		}
	}
	if _, e := joined(t, "something for nothing", []api.Change{{Path: "p", Old: fileValue(1)}}, []api.Change{{Path: "p", Old: fileValue(1), New: fileValue(2)}}); e != api.ErrDiffOld {
		t.Error(e)
	}
}

// What isn't in order is told ahead of an Old that is wrong, wherever the two stand.
func TestP13_4WhichError(t *testing.T) {
	a, b := come("a", "c"), come("a", "c")
	for _, l := range [][2][]api.Change{{append(come("a"), come("a")...), b}, {a, append(come("a"), come("a")...)}, {a, append(b, api.Change{Path: "d"})}, {append(a, api.Change{Path: "d"}), b}} {
		if _, e := joined(t, "both errors", l[0], l[1]); e != api.ErrDiffOrder {
			t.Error(e)
		}
	}
	if _, e := joined(t, "one error", a, b); e != api.ErrDiffOld {
		t.Error(e)
	}
}
