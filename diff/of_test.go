package diff

import (
	"fmt"
	"maps"
	"slices"
	"strings"
	"sync"
	"testing"

	"twine/api"
	"twine/tree"
)

func TestP13_1AllSmallPairs(t *testing.T) {
	l := smallTrees(1, "a", "a.b")
	for i, n := range l {
		for j, u := range l {
			wantList(t, fmt.Sprint(i, " and ", j), all(of(t, n), of(t, u)), plainOf(flat(n), flat(u)))
		}
	}
}

func TestP13_1DeeperPairs(t *testing.T) {
	l := smallTrees(2, "a", "b")
	for i, n := range l {
		for j := i % 7; j < len(l); j += 41 {
			wantList(t, fmt.Sprint(i, " and ", j), all(of(t, n), of(t, l[j])), plainOf(flat(n), flat(l[j])))
		}
	}
}

func TestP13_1RandomPairs(t *testing.T) {
	a := newAuthor(13)
	for i := range 2000 {
		n, u := a.tree(4), a.tree(4)
		wantList(t, fmt.Sprint("pair ", i), all(of(t, n), of(t, u)), plainOf(flat(n), flat(u)))
	}
}

// Each field of a value by itself makes two trees unlike, at the root as below it.
func TestP13_1OneField(t *testing.T) {
	f, d, l := fileValue(5), dirValue(5), linkValue(5)
	with := func(v api.Value, f func(v *api.Value)) api.Value { f(&v); return v }
	for i, c := range []struct{ one, other api.Value }{
		{d, with(d, func(v *api.Value) { v.Mode = 4 })},
		{d, with(d, func(v *api.Value) { v.Mode = api.Unknown })},
		{f, with(f, func(v *api.Value) { v.Mode = 7 })},
		{f, with(f, func(v *api.Value) { v.Mode = api.Unknown })},
		{f, with(f, func(v *api.Value) { v.Size = 6 })},
		{f, with(f, func(v *api.Value) { v.Sum[0] ^= 1 })},
		{f, with(f, func(v *api.Value) { v.Sum[31] ^= 0x80 })},
		{l, with(l, func(v *api.Value) { v.Size = 6 })},
		{l, with(l, func(v *api.Value) { v.Sum[17] ^= 1 })},
		{with(f, func(v *api.Value) { v.Mode = 0 }), with(f, func(v *api.Value) { v.Kind, v.Mode = api.Link, 0 })},
		{dirValue(6), api.Value{Kind: api.File, Mode: 6}},
		{d, l}, {d, f}, {f, l},
	} {
		for _, p := range []string{"", "x", "d/x"} {
			one, other := at(p, c.one), at(p, c.other)
			wantList(t, fmt.Sprint("row ", i), all(of(t, one), of(t, other)), []api.Change{{Path: p, Old: c.one, New: c.other}})
			wantList(t, fmt.Sprint("row ", i, ", back"), all(of(t, other), of(t, one)), []api.Change{{Path: p, Old: c.other, New: c.one}})
		}
	}
}

// at: a tree with a value at a path, and something beside it.
func at(p string, v api.Value) api.Node {
	n := api.Node{Value: v}
	l := namesOf(p)
	for _, name := range slices.Backward(l) {
		n = dir("", 7, marked("a", 1), named(name, n), marked("~", 1))
	}
	return n
}

func TestP13_1RootsModes(t *testing.T) {
	got := all(of(t, dir("", 7, file("f", 1))), of(t, dir("", 5, file("f", 2))))
	wantList(t, "roots", got, []api.Change{{Path: "", Old: dirValue(7), New: dirValue(5)}, {Path: "f", Old: fileValue(1), New: fileValue(2)}})
}

// Of a directory that is gone, or has come, each path is told; so too where a file or a link is in its place.
func TestP13_1Directories(t *testing.T) {
	full := dir("d", 5, dir("e", 4, file("g", 2)), file("f", 1), link("l", 3))
	below := func(v func(v api.Value) (api.Value, api.Value)) []api.Change {
		var l []api.Change
		for _, c := range []struct {
			p string
			v api.Value
		}{{"d/e", dirValue(4)}, {"d/e/g", fileValue(2)}, {"d/f", fileValue(1)}, {"d/l", linkValue(3)}} {
			before, after := v(c.v)
			l = append(l, api.Change{Path: c.p, Old: before, New: after})
		}
		return l
	}
	gone := below(func(v api.Value) (api.Value, api.Value) { return v, nothing() })
	come := below(func(v api.Value) (api.Value, api.Value) { return nothing(), v })
	for what, other := range map[string]api.Value{"nothing": nothing(), "a file": fileValue(7), "a link": linkValue(7), "an empty directory": dirValue(6)} {
		x, y := of(t, dir("", 7, full)), of(t, dir("", 7))
		if other.Kind != 0 {
			y = of(t, dir("", 7, api.Node{Name: "d", Value: other}))
		}
		wantList(t, what, all(x, y), append([]api.Change{{Path: "d", Old: dirValue(5), New: other}}, gone...))
		wantList(t, what+", back", all(y, x), append([]api.Change{{Path: "d", Old: other, New: dirValue(5)}}, come...))
	}
}

// The root itself may be a file or a link.
func TestP13_1RootsKinds(t *testing.T) {
	x, y := of(t, dir("", 7, file("a", 1), dir("b", 7, link("c", 2)))), of(t, link("", 9))
	want := []api.Change{{Path: "", Old: dirValue(7), New: linkValue(9)}, {Path: "a", Old: fileValue(1)}, {Path: "b", Old: dirValue(7)}, {Path: "b/c", Old: linkValue(2)}}
	wantList(t, "to a link", all(x, y), want)
	wantList(t, "from a link", all(y, x), Turn(want))
}

// The order is that of paths, not of texts: d.x is below d/f as a text.
func TestP13_1Order(t *testing.T) {
	x := of(t, dir("", 7, dir("d", 7, file("f", 1)), dir("d!", 7, file("f", 1)), file("d.x", 1)))
	y := of(t, dir("", 7))
	var paths []string
	for c := range Of(x, y) {
		paths = append(paths, c.Path)
	}
	if got := strings.Join(paths, " "); got != "d d/f d! d!/f d.x" {
		t.Error(got)
	}
	y = of(t, dir("", 7, file("d", 1), file("d\x01", 1), dir("d.x", 7, file("f", 1)), file("d0", 1)))
	paths = nil
	for c := range Of(x, y) {
		paths = append(paths, c.Path)
	}
	if got := strings.Join(paths, " "); got != "d d/f d\x01 d! d!/f d.x d.x/f d0" {
		t.Errorf("%q", got)
	}
}

func TestP13_1Deep(t *testing.T) {
	x, y := chain(file("", 1), api.MaxDepth), chain(dir("", 1), api.MaxDepth)
	wantList(t, "64 names", all(of(t, x), of(t, y)), []api.Change{{Path: zs(64), Old: fileValue(1), New: dirValue(1)}})
	if l := all(of(t, x), of(t, dir("", 5))); len(l) != 64 || l[63].Path != zs(64) || l[0].Path != "z" {
		t.Errorf("%d changes", len(l))
	}
	long := strings.Repeat("n", api.MaxName)
	wantList(t, "a long name", all(of(t, dir("", 7)), of(t, dir("", 7, link(long, 1)))), []api.Change{{Path: long, New: linkValue(1)}})
}

func TestP13_1MarksDontCount(t *testing.T) {
	x, y := of(t, dir("", 7, marked("a", 1), file("b", 1), file("c", 1))), of(t, dir("", 7, file("a", 1), marked("b", 1), file("c", 2)))
	wantList(t, "marks", all(x, y), []api.Change{{Path: "c", Old: fileValue(1), New: fileValue(2)}})
}

// firsts: what an iterator gives up to its n-th change, behind which it is left.
func firsts(n int, t, u *tree.Tree) []api.Change {
	var l []api.Change
	for c := range Of(t, u) {
		if l = append(l, c); len(l) >= n {
			break
		}
	}
	return l
}

func TestP13_1Left(t *testing.T) {
	x, y := of(t, some()), of(t, dir("", 5, dir("d", 7, file("f", 1)), dir("q", 7, file("f", 1), link("g", 1))))
	want := plainOf(flat(some()), flat(y.Node()))
	for n := 1; n <= len(want); n++ {
		wantList(t, fmt.Sprint("left behind ", n), firsts(n, x, y), want[:n])
	}
	// Left in a way that range can't show: nothing more is given behind a no.
	for n := 1; n <= len(want); n++ {
		calls := 0
		Of(x, y)(func(api.Change) bool { calls++; return calls < n })
		if calls != n {
			t.Errorf("%d calls, want %d", calls, n)
		}
	}
}

func TestP13_1Again(t *testing.T) {
	x, y := of(t, some()), of(t, dir("", 5, marked("d", 7)))
	it, want := Of(x, y), plainOf(flat(some()), flat(y.Node()))
	for range it {
		break
	}
	wantList(t, "once", slices.Collect(it), want)
	wantList(t, "twice", slices.Collect(it), want)
	var l []api.Change
	for c := range it {
		l = append(l, c)
		wantList(t, "while it is under way", slices.Collect(it), want)
		wantList(t, "another one meanwhile", all(y, x), Turn(want))
		for range it {
			break
		}
	}
	wantList(t, "the outer one", l, want)
}

func TestP13_1AtOnce(t *testing.T) {
	x, y := of(t, some()), of(t, dir("", 5, marked("d", 7)))
	it, want := Of(x, y), plainOf(flat(some()), flat(y.Node()))
	var group sync.WaitGroup
	got := make([][]api.Change, 8)
	for i := range got {
		group.Go(func() { got[i] = slices.Collect(it) })
	}
	group.Wait()
	for _, l := range got {
		wantList(t, "at once", l, want)
	}
}

// One subtree put at so many places that nobody could go through them: what both trees share isn't gone through, and an iterator that is left goes no further.
func TestP13_1SharedMuch(t *testing.T) {
	x := of(t, marked("", 1))
	for range 60 {
		d := of(t, dir("", 7))
		d, _ = d.Put("a", x)
		x, _ = d.Put("b", x)
	}
	p := strings.TrimSuffix(strings.Repeat("a/b/", 30), "/")
	y, e := x.Set(p, linkValue(1), [2]api.Mark{})
	if e != api.OK {
		t.Fatal(e)
	}
	wantList(t, "itself", all(x, x), nil)
	l := []api.Change{{Path: p, Old: fileValue(1), New: linkValue(1)}}
	wantList(t, "one path", all(x, y), l)
	if z, e := Apply(x, l); e != api.OK {
		t.Error(e)
	} else {
		wantList(t, "applied", all(y, z), nil)
	}
	got := firsts(3, of(t, dir("", 7)), x)
	wantList(t, "left", got, []api.Change{{Path: "a", New: dirValue(7)}, {Path: "a/a", New: dirValue(7)}, {Path: "a/a/a", New: dirValue(7)}})
}

func TestP13_1Wide(t *testing.T) {
	n, u := dir("", 7), dir("", 7)
	for i := range 20000 {
		if i%3 > 0 {
			n.Kids = append(n.Kids, file(fmt.Sprintf("n%05d", i), i%2))
		}
		if i%5 > 0 {
			u.Kids = append(u.Kids, file(fmt.Sprintf("n%05d", i), i%4))
		}
	}
	wantList(t, "wide", all(of(t, n), of(t, u)), plainOf(flat(n), flat(u)))
}

func TestP13_1TreesStay(t *testing.T) {
	x, y := of(t, some()), of(t, dir("", 5, marked("d", 7)))
	before, after := maps.Clone(flat(x.Node())), maps.Clone(flat(y.Node()))
	for range 3 {
		all(x, y)
		firsts(1, y, x)
	}
	holds(t, "t", x, before)
	holds(t, "u", y, after)
}
