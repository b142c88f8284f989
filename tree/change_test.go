package tree

import (
	"fmt"
	"maps"
	"math/rand"
	"strings"
	"testing"

	"twine/api"
)

// smallTrees: all trees of the three kinds over the names a and b, of at most so many levels.
func smallTrees(levels int) []api.Node {
	l := []api.Node{marked("", 3, 1, 2), link("", 3), dir("", 7)}
	if levels == 0 {
		return l
	}
	below := smallTrees(levels - 1)
	for i := -1; i < len(below); i++ {
		for j := -1; j < len(below); j++ {
			n := dir("", 5)
			if i >= 0 {
				n.Kids = append(n.Kids, named("a", below[i]))
			}
			if j >= 0 {
				n.Kids = append(n.Kids, named("b", below[j]))
			}
			l = append(l, n)
		}
	}
	return l
}

func named(name string, n api.Node) api.Node {
	n.Name = name
	return n
}

func smallPaths() []string {
	return []string{"", "a", "b", "c", "a/a", "a/b", "a/c", "b/a", "b/b", "a/a/a", "a/b/b", "b/a/c", "c/a", "a/a/a/a", "b/b/b/b"}
}

// plain: a tree as its paths, changed in the plainest way.
type plain map[string]thing

func isBelow(q, p string) bool { return p == "" && q != "" || strings.HasPrefix(q, p+"/") }

// wayError tells the errors of a path's text and of the way to it.
func (m plain) wayError(p string) api.Errno {
	if p == "" {
		return api.OK
	}
	l := strings.Split(p, "/")
	for i := range l {
		above := strings.Join(l[:i], "/")
		if m[above].v.Kind != api.Dir {
			return api.ErrTreeWay
		}
	}
	return api.OK
}

func (m plain) without(p string) plain {
	out := plain{}
	for q, v := range m {
		if q != p && !isBelow(q, p) {
			out[q] = v
		}
	}
	return out
}

func (m plain) put(p string, s plain) (plain, api.Errno) {
	if e := m.wayError(p); e != api.OK {
		return nil, e
	}
	out := m.without(p)
	for q, v := range s {
		at := p
		if p == "" || q == "" {
			at = p + q
		} else {
			at = p + "/" + q
		}
		out[at] = v
	}
	return out, api.OK
}

func (m plain) drop(p string) (plain, api.Errno) {
	if p == "" {
		return nil, api.ErrTreeRoot
	}
	if e := m.wayError(p); e != api.OK {
		return nil, e
	}
	if _, ok := m[p]; !ok {
		return nil, api.ErrTreeNone
	}
	return m.without(p), api.OK
}

func (m plain) set(p string, v thing) (plain, api.Errno) {
	if e := m.wayError(p); e != api.OK {
		return nil, e
	}
	if _, ok := m[p]; !ok {
		return nil, api.ErrTreeNone
	}
	for q := range m {
		if isBelow(q, p) && v.v.Kind != api.Dir {
			return nil, api.ErrTreeKind
		}
	}
	out := maps.Clone(m)
	out[p] = v
	return out, api.OK
}

// held holds what a change answered against the plain one, and the tree ahead of it against what it was.
func held(t *testing.T, what string, old *Tree, was plain, got *Tree, e api.Errno, want plain, f api.Errno) {
	t.Helper()
	if e != f || (got == nil) != (e != api.OK) {
		t.Fatalf("%s of %#v: %d, want %d", what, was, e, f)
	}
	if got != nil {
		holds(t, got, want)
	}
	holds(t, old, was)
}

func TestP4_6AllSmallPuts(t *testing.T) {
	for i, n := range smallTrees(2) {
		x, m := of(t, n), plain(flat(n))
		for j, p := range smallPaths() {
			for k, s := range smallTrees(1) {
				if (i+j+k)%3 != 0 {
					continue
				}
				y, e := x.Put(p, of(t, s))
				want, f := m.put(p, flat(s))
				held(t, "Put "+p, x, m, y, e, want, f)
			}
		}
	}
}

func TestP4_7AllSmallSets(t *testing.T) {
	for _, n := range smallTrees(2) {
		x, m := of(t, n), plain(flat(n))
		for _, p := range smallPaths() {
			for _, s := range []api.Node{dir("", 3), file("", 9), marked("", 8, 5, 6), link("", 7)} {
				v := thing{s.Value, s.Marks}
				y, e := x.Set(p, v.v, v.m)
				want, f := m.set(p, v)
				held(t, "Set "+p, x, m, y, e, want, f)
			}
		}
	}
}

func TestP4_8AllSmallDrops(t *testing.T) {
	for _, n := range smallTrees(2) {
		x, m := of(t, n), plain(flat(n))
		for _, p := range smallPaths() {
			y, e := x.Drop(p)
			want, f := m.drop(p)
			held(t, "Drop "+p, x, m, y, e, want, f)
		}
	}
}

func TestP4_6Root(t *testing.T) {
	for _, n := range smallTrees(1) {
		for _, s := range append(smallTrees(1), chain(file("z", 1), 64)) {
			x, e := of(t, n).Put("", of(t, s))
			if e != api.OK || !sameNode(x.Node(), s) {
				t.Fatalf("%v: %d", s, e)
			}
		}
	}
}

func TestP4_6Kinds(t *testing.T) {
	x := of(t, sample())
	for _, s := range []api.Node{file("", 5), marked("", 5, 6, 7), link("", 5), dir("", 5), sample()} {
		for _, p := range []string{"a", "a b", "a b/n", "a.b", "d", "d/d", "d/d/x", "d/d/w", "d/f", "e", "~", "A", strings.Repeat("n", 255)} {
			y, e := x.Put(p, of(t, s))
			want, _ := plain(flat(sample())).put(p, flat(s))
			held(t, "Put "+p, x, flat(sample()), y, e, want, api.OK)
		}
	}
}

// Each of the three calls tells a text that is no path, and a way that isn't there, ahead of all else.
func TestP4_6WayErrors(t *testing.T)  { wayErrors(t, "Put") }
func TestP4_7WayErrors(t *testing.T)  { wayErrors(t, "Set") }
func TestP4_8WayErrors(t *testing.T)  { wayErrors(t, "Drop") }
func TestP4_7Nothing(t *testing.T)    { nothingThere(t, "Set") }
func TestP4_8Nothing(t *testing.T)    { nothingThere(t, "Drop") }
func TestP4_6OfNoDir(t *testing.T)    { ofNoDirectory(t, "Put") }
func TestP4_7OfNoDir(t *testing.T)    { ofNoDirectory(t, "Set") }
func TestP4_8OfNoDir(t *testing.T)    { ofNoDirectory(t, "Drop") }
func deepest(t *testing.T) *Tree      { return of(t, chain(file("z", 1), 64)) }
func zs(n int) string                 { return strings.TrimSuffix(strings.Repeat("z/", n), "/") }
func badThing() (api.Value, api.Mark) { return api.Value{}, api.Mark{Number: -1} }

// changed makes one of the three changes; what it puts or sets is as wrong as it can be.
func changed(t *testing.T, x *Tree, what, p string) api.Errno {
	t.Helper()
	var y *Tree
	var e api.Errno
	switch what {
	case "Put":
		y, e = x.Put(p, deepest(t))
	case "Set":
		v, m := badThing()
		y, e = x.Set(p, v, [2]api.Mark{m, m})
	case "Drop":
		y, e = x.Drop(p)
	}
	if y != nil {
		t.Errorf("%s %.80q: a tree beside %d", what, p, e)
	}
	return e
}

func wayErrors(t *testing.T, what string) {
	x := of(t, sample())
	rows := noPaths()
	for _, p := range []string{"a/x", "a/x/y", "a.b/x", "a.b/x/y", "z/x", "e/x", "e/x/y", "b/x", "d/d/x/y", "d/e/x", "d/e/x/y/z", "d/f/x", "a b/x/y", "d/d/w/v", "d/d/x/y/" + zs(60)} {
		rows[p] = api.ErrTreeWay
	}
	for p, want := range rows {
		if e := changed(t, x, what, p); e != want {
			t.Errorf("%s %.80q: %d, want %d", what, p, e, want)
		}
	}
	holds(t, x, flat(sample()))
}

func nothingThere(t *testing.T, what string) {
	x := of(t, sample())
	for _, p := range []string{"b", "A", "~", "a b/x", "d/x", "d/d/z", "d/d/xx", strings.Repeat("n", 255)} {
		if e := changed(t, x, what, p); e != api.ErrTreeNone {
			t.Errorf("%s %.80q: %d", what, p, e)
		}
	}
}

func ofNoDirectory(t *testing.T, what string) {
	for _, n := range []api.Node{file("", 1), link("", 1)} {
		for _, p := range []string{"a", "a/b"} {
			if e := changed(t, of(t, n), what, p); e != api.ErrTreeWay {
				t.Errorf("%s %q: %d", what, p, e)
			}
		}
		if e := changed(t, of(t, n), what, "/"); e != api.ErrPathName {
			t.Errorf("%s: %d", what, e)
		}
	}
}

func TestP4_6Deep(t *testing.T) {
	for levels := range 65 {
		s := of(t, chain(file("z", 1), levels))
		for _, names := range []int{0, 1, 2, 63 - levels, 64 - levels, 65 - levels, 63, 64} {
			if names < 0 || names > 64 {
				continue
			}
			x := of(t, chain(dir("z", 7), max(names-1, 0)))
			y, e := x.Put(zs(names), s)
			if names+levels > 64 && (e != api.ErrTreeDeep || y != nil) || names+levels <= 64 && (e != api.OK || y.Depth() != names+levels) {
				t.Errorf("%d names and %d: %d", names, levels, e)
			}
		}
	}
}

func TestP4_6DeepOrder(t *testing.T) {
	x := of(t, sample())
	for p, want := range map[string]api.Errno{"": 0, "a": 43, "n": 43, "d/d/x": 43, "a/x": 44, "e/x": 44, "a//x": 30, zs(65): 31} {
		if _, e := x.Put(p, deepest(t)); e != want {
			t.Errorf("%.80q: %d, want %d", p, e, want)
		}
	}
}

func TestP4_7KindOfDirectory(t *testing.T) {
	x := of(t, sample())
	none := [2]api.Mark{}
	for i, c := range []struct {
		p    string
		n    api.Node
		want api.Errno
	}{
		{"d", file("", 1), 40}, {"d", link("", 1), 40}, {"d", dir("", 1), 0}, {"d/d", link("", 1), 40}, {"", file("", 1), 40}, {"", link("", 1), 40}, {"", dir("", 0), 0}, {"a b", file("", 1), 0}, {"a b", link("", 1), 0}, {"a b", dir("", 2), 0},
		{"a", dir("", 1), 0}, {"a", link("", 1), 0}, {"a.b", dir("", 1), 0}, {"a.b", file("", 1), 0},
		{"a", api.Node{}, 40}, {"d", api.Node{}, 40}, {"", api.Node{}, 40}, {"a", api.Node{Value: api.Value{Kind: 4}}, 40}, {"d", api.Node{Value: api.Value{Kind: -1, Mode: 9}}, 40}, {"d", api.Node{Value: api.Value{Kind: api.File, Mode: 9}}, 40}, {"a b", api.Node{Value: api.Value{Kind: api.File, Mode: 9}}, 41}, {"d", dir("", 9), 41}, {"a", link("", 0), 41}, {"a", file("", -1), 41},
	} {
		y, e := x.Set(c.p, c.n.Value, none)
		if e != c.want || (y == nil) != (e != 0) {
			t.Errorf("row %d: %d, want %d", i, e, c.want)
		}
		if y != nil {
			want, _ := plain(flat(sample())).set(c.p, thing{c.n.Value, none})
			holds(t, y, want)
		}
	}
	holds(t, x, flat(sample()))
}

func TestP4_7Marks(t *testing.T) {
	x := of(t, sample())
	m := [2]api.Mark{{}, {Number: 3, Stamp: api.MaxStamp}}
	value := file("", 1).Value
	y, e := x.Set("a", value, m)
	want, _ := plain(flat(sample())).set("a", thing{value, m})
	held(t, "Set a", x, flat(sample()), y, e, want, api.OK)
	half := [2]api.Mark{{}, {Number: 3}}
	for i, c := range []struct {
		p    string
		v    api.Value
		m    [2]api.Mark
		want api.Errno
	}{
		{"a", value, half, 41}, {"a", dir("", 7).Value, m, 41}, {"a", link("", 7).Value, m, 41}, {"d", dir("", 7).Value, m, 41}, {"", dir("", 7).Value, m, 41}, {"d", value, half, 40}, {"nn", value, half, 45}, {"a/x", value, half, 44}, {"a//x", value, half, 30},
	} {
		if y, e := x.Set(c.p, c.v, c.m); y != nil || e != c.want {
			t.Errorf("row %d: %d, want %d", i, e, c.want)
		}
	}
}

func TestP4_8Order(t *testing.T) {
	for _, n := range []api.Node{sample(), file("", 1), link("", 1), dir("", 1)} {
		if y, e := of(t, n).Drop(""); y != nil || e != api.ErrTreeRoot {
			t.Errorf("%d", e)
		}
	}
}

func TestP4_8Last(t *testing.T) {
	x := of(t, sample())
	y, e := x.Drop("d/d/x")
	z, f := y.Drop("d/d/y")
	if e != 0 || f != 0 || z.Count() != 9 || z.Depth() != 2 || y.Depth() != 3 {
		t.Fatal(e, f)
	}
	if v, ok := z.At("d/d"); !ok || v != (api.Value{Kind: api.Dir}) {
		t.Error("an empty directory is gone")
	}
	if w, e := z.Set("d/d", file("", 1).Value, [2]api.Mark{}); e != api.OK || w == nil {
		t.Errorf("Set of an emptied directory: %d", e)
	}
	if w, e := y.Set("d/d", file("", 1).Value, [2]api.Mark{}); e != api.ErrTreeKind || w != nil {
		t.Errorf("Set of a full directory: %d", e)
	}
}

// A long script of changes of any tree that was made; in the end each tree answers what it did at first.
func TestP4_11Script(t *testing.T) {
	r := rand.New(rand.NewSource(4))
	names := []string{"a", "b", "c", "a.b", "\xff", "..."}
	somePath := func() string {
		l := make([]string, r.Intn(4))
		for i := range l {
			l[i] = names[r.Intn(len(names))]
		}
		return strings.Join(l, "/")
	}
	type made struct {
		x *Tree
		m plain
	}
	all := []made{{of(t, sample()), flat(sample())}}
	for _, n := range smallTrees(1) {
		all = append(all, made{of(t, n), flat(n)})
	}
	value := func() thing {
		n := []api.Node{dir("", r.Intn(9)), file("", r.Intn(50)), marked("", 1, r.Intn(9)+1, 3), link("", 1+r.Intn(50))}[r.Intn(4)]
		return thing{n.Value, n.Marks}
	}
	for range 4000 {
		old, p := all[max(0, len(all)-1-r.Intn(8))], somePath()
		var y *Tree
		var m plain
		var e, f api.Errno
		switch r.Intn(6) {
		case 0, 1, 2:
			s := all[r.Intn(min(30, len(all)))]
			y, e = old.x.Put(p, s.x)
			m, f = old.m.put(p, s.m)
		case 3:
			y, e = old.x.Drop(p)
			m, f = old.m.drop(p)
		default:
			v := value()
			y, e = old.x.Set(p, v.v, v.m)
			m, f = old.m.set(p, v)
		}
		if e != f {
			t.Fatalf("%q: %d, want %d", p, e, f)
		}
		if e == api.OK && len(m) < 200 {
			all = append(all, made{y, m})
		}
	}
	if len(all) < 500 {
		t.Fatalf("%d trees", len(all))
	}
	for _, c := range all {
		holds(t, c.x, c.m)
	}
}

// What is kept of a tree, its subtrees and its iterators, stays too.
func TestP4_11Kept(t *testing.T) {
	x := of(t, sample())
	s, _ := x.Sub("d")
	below := flat(s.Node())
	it, kids, n := x.All(), s.Children(), x.Node()
	was, kidsWere := taken(it, 99), fmt.Sprint(names(kids))
	x.Put("d/d", s)
	x.Put("d/a", s)
	x.Put("d", of(t, file("", 1)))
	x.Drop("d/d/x")
	x.Drop("d")
	x.Set("d/d/y", link("", 1).Value, [2]api.Mark{})
	s.Drop("d")
	s.Put("", x)
	s.Put("\xff", x)
	s.Set("", dir("", 2).Value, [2]api.Mark{})
	holds(t, x, flat(sample()))
	holds(t, s, below)
	if fmt.Sprint(taken(it, 99)) != fmt.Sprint(was) || fmt.Sprint(names(kids)) != kidsWere || !sameNode(n, sample()) {
		t.Error("something that was answered is changed")
	}
}

func names(it func(func(string, *Tree) bool)) []string {
	var l []string
	for name := range it {
		l = append(l, name)
	}
	return l
}

func TestP4_12PutAndSub(t *testing.T) {
	for i, n := range smallTrees(2) {
		x := of(t, n)
		for j, p := range smallPaths() {
			for k, raw := range smallTrees(1) {
				if (i+j+k)%5 != 0 {
					continue
				}
				s := of(t, raw)
				y, e := x.Put(p, s)
				if e != api.OK {
					continue
				}
				if at, ok := y.Sub(p); !ok || !sameNode(at.Node(), raw) {
					t.Fatalf("Sub %q behind Put", p)
				}
				for _, q := range smallPaths() {
					v, ok := y.At(q)
					was, there := x.At(q)
					if q != p && !isBelow(q, p) && (v != was || ok != there) {
						t.Fatalf("At %q behind Put at %q: %v, %v", q, p, v, ok)
					}
				}
				back(t, x, y, p)
			}
		}
	}
}

// back holds what comes of Put of a Sub, and of Drop behind Put; y is x with something at p.
func back(t *testing.T, x, y *Tree, p string) {
	t.Helper()
	s, ok := x.Sub(p)
	if ok {
		if z, e := y.Put(p, s); e != api.OK || !sameNode(z.Node(), x.Node()) {
			t.Fatalf("Put of Sub at %q: %d", p, e)
		}
		if z, e := x.Put(p, s); e != api.OK || !sameNode(z.Node(), x.Node()) {
			t.Fatalf("Put of Sub at %q: %d", p, e)
		}
	}
	if p == "" {
		return
	}
	z, e := y.Drop(p)
	want := x
	if ok {
		want, _ = x.Drop(p)
	}
	if e != api.OK || !sameNode(z.Node(), want.Node()) {
		t.Fatalf("Drop behind Put at %q: %d", p, e)
	}
}

func TestP4_12TwoPuts(t *testing.T) {
	some := []api.Node{file("", 8), dir("", 1, link("a", 2)), link("", 5)}
	for i, n := range smallTrees(2) {
		x := of(t, n)
		for _, p := range smallPaths() {
			for _, q := range smallPaths() {
				if p == q || isBelow(p, q) || isBelow(q, p) {
					continue
				}
				s, u := of(t, some[i%3]), of(t, some[(i+1)%3])
				one, e := x.Put(p, s)
				other, f := x.Put(q, u)
				if e != api.OK || f != api.OK {
					continue
				}
				one, e = one.Put(q, u)
				other, f = other.Put(p, s)
				if e != api.OK || f != api.OK || !sameNode(one.Node(), other.Node()) {
					t.Fatalf("%q and %q: %d, %d", p, q, e, f)
				}
			}
		}
	}
}
