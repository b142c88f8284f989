package tree

import (
	"fmt"
	"iter"
	"maps"
	"math"
	"math/big"
	"reflect"
	"slices"
	"strings"
	"testing"

	"twine/api"
)

func dir(name string, mode int, kids ...api.Node) api.Node {
	return api.Node{Name: name, Value: api.Value{Kind: api.Dir, Mode: mode}, Kids: kids}
}

func file(name string, size int) api.Node {
	return api.Node{Name: name, Value: api.Value{Kind: api.File, Mode: 6, Size: size, Sum: [32]byte{byte(size), 31: 1}}}
}

func marked(name string, size, a, b int) api.Node {
	n := file(name, size)
	n.Marks = [2]api.Mark{{Number: a, Stamp: a + 1}, {Number: b, Stamp: b + 1}}
	return n
}

func link(name string, size int) api.Node {
	return api.Node{Name: name, Value: api.Value{Kind: api.Link, Size: size, Sum: [32]byte{9}}}
}

// chain: n below so many directories.
func chain(n api.Node, levels int) api.Node {
	for range levels {
		n = dir("z", 7, n)
	}
	n.Name = ""
	return n
}

func of(t testing.TB, n api.Node) *Tree {
	t.Helper()
	x, e := Of(n)
	if x == nil || e != api.OK {
		t.Fatalf("Of: %d", e)
	}
	return x
}

// sample: each kind, marks, names in the order of bytes, and something deeper.
func sample() api.Node {
	return dir("", 7,
		marked("a", 3, 5, 7),
		dir("a b", api.Unknown),
		link("a.b", 4),
		dir("d", 5, dir("d", 0, file("x", 0), marked("y", 9, 1, 2)), link("e", 1), file("\xff", 1)),
		file("z", 2),
	)
}

// thing: what a path of a tree has.
type thing struct {
	v api.Value
	m [2]api.Mark
}

// flat lays raw data out by paths, which is all that the plain reckonings of these tests look at.
func flat(n api.Node) map[string]thing {
	out := map[string]thing{"": {n.Value, n.Marks}}
	for _, k := range n.Kids {
		for p, v := range flat(k) {
			out[strings.TrimSuffix(k.Name+"/"+p, "/")] = v
		}
	}
	return out
}

func byNames(a, b string) int { return slices.Compare(strings.Split(a, "/"), strings.Split(b, "/")) }

// paths: the flat tree's paths in their order, the root first.
func paths(m map[string]thing) []string {
	l := slices.SortedFunc(maps.Keys(m), byNames)
	root := slices.Index(l, "")
	return append([]string{""}, slices.Delete(l, root, root+1)...)
}

// holds holds all that a tree answers against the flat one.
func holds(t *testing.T, x *Tree, m map[string]thing) {
	t.Helper()
	deep := 0
	for p := range m {
		if p != "" {
			deep = max(deep, strings.Count(p, "/")+1)
		}
	}
	if got := flat(x.Node()); !maps.Equal(got, m) {
		t.Fatalf("Node: %#v, want %#v", got, m)
	}
	if x.Count() != len(m) || x.Depth() != deep {
		t.Fatalf("Count %d, Depth %d; want %d, %d", x.Count(), x.Depth(), len(m), deep)
	}
	if x.Value() != m[""].v || x.Marks() != m[""].m {
		t.Fatalf("Value %v, Marks %v; want %v", x.Value(), x.Marks(), m[""])
	}
	var l []string
	for p, v := range x.All() {
		l = append(l, p)
		if at, ok := x.At(p); v != m[p].v || at != v || !ok {
			t.Fatalf("%q: All %v, At %v, want %v", p, v, at, m[p].v)
		}
	}
	if !slices.Equal(l, paths(m)) {
		t.Fatalf("All: %q, want %q", l, paths(m))
	}
}

func TestP4_Example1(t *testing.T) {
	x := of(t, dir("", 7, file("a", 3), dir("d", 5)))
	var l []string
	for p := range x.All() {
		l = append(l, p)
	}
	if x.Count() != 3 || x.Depth() != 1 || !slices.Equal(l, []string{"", "a", "d"}) {
		t.Errorf("Count %d, Depth %d, All %q", x.Count(), x.Depth(), l)
	}
	full := file("a", 3)
	full.Kids = []api.Node{file("x", 1)}
	for i, c := range []struct {
		n api.Node
		e api.Errno
	}{
		{dir("", 7, dir("d", 5), file("a", 3)), 42},
		{dir("", 7, full, dir("d", 5)), 40},
		{dir("", 7, file("a", 3), file("a", 3), dir("d", 5)), 42},
	} {
		if p, e := Check(c.n); p != "a" || e != c.e {
			t.Errorf("row %d: %q, %d", i, p, e)
		}
	}
}

func TestP4_Example2(t *testing.T) {
	x, s := of(t, dir("", 7, file("a", 3), dir("d", 5))), of(t, link("", 1))
	y, e := x.Put("d/x", s)
	if e != api.OK {
		t.Fatalf("Put: %d", e)
	}
	type answer struct {
		r *Tree
		e api.Errno
	}
	tell := func(r *Tree, e api.Errno) answer { return answer{r, e} }
	value := api.Value{Kind: api.File, Mode: 6}
	for i, c := range []struct {
		got  answer
		want api.Errno
	}{
		{tell(x.Put("a/x", s)), 44}, {tell(x.Put("e/x", s)), 44}, {tell(x.Drop("e")), 45}, {tell(x.Drop("")), 46}, {tell(x.Set("d", value, [2]api.Mark{})), 0}, {tell(y.Set("d", value, [2]api.Mark{})), 40},
	} {
		if c.got.e != c.want || (c.got.r == nil) != (c.want != 0) {
			t.Errorf("row %d: %v", i, c.got)
		}
	}
	z, e := y.Drop("d")
	if e != api.OK {
		t.Fatalf("Drop: %d", e)
	}
	if v, ok := z.At("d"); ok || v != (api.Value{}) {
		t.Errorf("behind Drop: %v", v)
	}
	if v, ok := y.At("d"); !ok || v != (api.Value{Kind: api.Dir, Mode: 5}) {
		t.Errorf("ahead of Drop: %v, %v", v, ok)
	}
}

func TestP4_3OfAndNode(t *testing.T) {
	for i, n := range []api.Node{dir("", 7), dir("", 0), dir("", api.Unknown), file("", 0), marked("", 9, 3, 4), link("", api.MaxTarget), sample(), chain(file("z", 1), 64), chain(dir("z", 7), 64)} {
		x, e := Of(n)
		if e != api.OK {
			t.Fatalf("row %d: %d", i, e)
		}
		if !sameNode(x.Node(), n) {
			t.Errorf("row %d: %#v", i, x.Node())
		}
		holds(t, x, flat(n))
	}
}

// sameNode holds raw data against other raw data, a nil list being an empty one.
func sameNode(a, b api.Node) bool {
	return a.Name == b.Name && a.Value == b.Value && a.Marks == b.Marks && slices.EqualFunc(a.Kids, b.Kids, sameNode)
}

func TestP4_3RootsName(t *testing.T) {
	for _, name := range []string{"a", "", ".", "..", "a/b", "/", "\x00", strings.Repeat("n", 256)} {
		for _, n := range []api.Node{sample(), file("", 3), link("", 3)} {
			n.Name = name
			x := of(t, n)
			n.Name = ""
			if !sameNode(x.Node(), n) {
				t.Errorf("%.80q: %#v", name, x.Node())
			}
		}
	}
}

func TestP4_3Refused(t *testing.T) {
	for i, n := range []api.Node{{}, dir("", 9), dir("", 7, file("", 1)), dir("", 7, file("b", 1), file("a", 1)), chain(file("z", 1), 65)} {
		_, want := Check(n)
		if x, e := Of(n); x != nil || e != want || e == api.OK {
			t.Errorf("row %d: %v, %d, want %d", i, x, e, want)
		}
	}
}

func TestP4_3EmptyList(t *testing.T) {
	for _, n := range []api.Node{dir("", 7), file("", 1), link("", 1)} {
		n.Kids = []api.Node{}
		if x := of(t, n); len(x.Node().Kids) != 0 || x.Count() != 1 {
			t.Errorf("%#v", x.Node())
		}
	}
}

// roomy copies raw data so that each list has spare room, with something in it.
func roomy(n api.Node) api.Node {
	l := make([]api.Node, 0, len(n.Kids)+2)
	for _, k := range n.Kids {
		l = append(l, roomy(k))
	}
	n.Kids = append(l, link("~1", 7), link("~2", 8))[:len(l)]
	return n
}

func sameRoom(a, b api.Node) bool {
	x, y := a.Kids[:cap(a.Kids)], b.Kids[:cap(b.Kids)]
	return a.Name == b.Name && a.Value == b.Value && a.Marks == b.Marks && len(x) == len(y) && slices.EqualFunc(a.Kids, b.Kids, sameRoom) && reflect.DeepEqual(x[len(a.Kids):], y[len(b.Kids):])
}

// spoil writes over all that hangs on raw data.
func spoil(n api.Node) {
	for i, k := range n.Kids[:cap(n.Kids)] {
		spoil(k)
		n.Kids[:cap(n.Kids)][i] = link("spoilt", 99)
	}
}

func TestP4_3HandedIn(t *testing.T) {
	n, want := roomy(sample()), flat(sample())
	x := of(t, n)
	y, e := x.Put("q", of(t, roomy(n)))
	z, f := x.Set("d", api.Value{Kind: api.Dir, Mode: 1}, [2]api.Mark{})
	if e != api.OK || f != api.OK {
		t.Fatal(e, f)
	}
	if !sameRoom(n, roomy(sample())) {
		t.Error("what was handed in is changed")
	}
	spoil(n)
	holds(t, x, want)
	if s, ok := y.Sub("q"); !ok || !Same(s, x, false) || z.Count() != x.Count() {
		t.Error("what was handed in is kept")
	}
}

func TestP4_3NewMemory(t *testing.T) {
	x := of(t, sample())
	n, later := x.Node(), x.Node()
	spoil(n)
	if !sameNode(later, sample()) || !sameNode(x.Node(), sample()) {
		t.Error("an answer is touched by another one")
	}
	fillSpare(later)
	if !sameNode(later, sample()) {
		t.Error("two lists of one answer share memory")
	}
	holds(t, x, flat(sample()))
}

func fillSpare(n api.Node) {
	spare := n.Kids[len(n.Kids):cap(n.Kids)]
	for i := range spare {
		spare[i] = link("spare", 99)
	}
	for _, k := range n.Kids {
		fillSpare(k)
	}
}

func TestP4_4Root(t *testing.T) {
	for _, n := range []api.Node{dir("", 4), marked("", 8, 1, 2), file("", 8), link("", 8)} {
		x := of(t, n)
		if x.Value() != n.Value || x.Marks() != n.Marks || x.Count() != 1 || x.Depth() != 0 {
			t.Errorf("%v: %v, %v, %d, %d", n, x.Value(), x.Marks(), x.Count(), x.Depth())
		}
		for name := range x.Children() {
			t.Errorf("%v: a child %q", n, name)
		}
	}
}

func TestP4_4Children(t *testing.T) {
	n := sample()
	i := 0
	for name, s := range of(t, n).Children() {
		want := n.Kids[i]
		if name != want.Name {
			t.Fatalf("child %d: %q", i, name)
		}
		want.Name = ""
		if !sameNode(s.Node(), want) {
			t.Errorf("child %q: %#v", name, s.Node())
		}
		holds(t, s, flat(want))
		i++
	}
	if i != len(n.Kids) {
		t.Errorf("%d children", i)
	}
}

// Names rise byte by byte: neither as paths nor as runes nor by their length.
func TestP4_4ChildrenRise(t *testing.T) {
	names := []string{"\x01", "\x7f", " ", "!", "-", "...", "0", "10", "9", "A", "a", "aa", "ab", "b", "é", "\x80", "\xff", "\xff\xff", strings.Repeat("m", 255)}
	x := of(t, dir("", 7))
	for _, name := range names {
		x, _ = x.Put(name, of(t, file("", 1)))
	}
	slices.Sort(names)
	var l []string
	for name := range x.Children() {
		l = append(l, name)
	}
	if !slices.Equal(l, names) {
		t.Errorf("%q", l)
	}
	n := dir("", 7)
	for _, name := range names {
		n.Kids = append(n.Kids, file(name, 1))
	}
	if !sameNode(of(t, n).Node(), x.Node()) {
		t.Errorf("%#v", x.Node())
	}
}

func TestP4_4CountAndDepth(t *testing.T) {
	for i, c := range []struct {
		n           api.Node
		count, deep int
	}{
		{dir("", 7), 1, 0}, {file("", 1), 1, 0}, {link("", 1), 1, 0}, {dir("", 7, dir("a", 7)), 2, 1}, {dir("", 7, file("a", 1), file("b", 1)), 3, 1}, {sample(), 11, 3}, {chain(file("z", 1), 64), 65, 64},
		{dir("", 7, chainAt("a", 5), file("b", 1)), 8, 6}, {dir("", 7, file("a", 1), chainAt("b", 5)), 8, 6}, {dir("", 7, chainAt("a", 2), chainAt("b", 5), chainAt("c", 3)), 14, 6},
	} {
		if x := of(t, c.n); x.Count() != c.count || x.Depth() != c.deep {
			t.Errorf("row %d: %d, %d", i, x.Count(), x.Depth())
		}
	}
}

func chainAt(name string, levels int) api.Node {
	n := chain(file("z", 1), levels)
	n.Name = name
	return n
}

// One subtree may be at many places: no walk would come to an end here, and no int tells how many things there are.
func TestP4_4CountOfShared(t *testing.T) {
	for _, names := range [][]string{{"a"}, {"a", "b"}, {"a", "b", "c"}, {"a", "b", "c", "d", "e", "f", "g"}} {
		x, want := of(t, file("", 1)), big.NewInt(1)
		for level := range 64 {
			y := of(t, dir("", 7))
			for _, name := range names {
				y, _ = y.Put(name, x)
			}
			x = y
			want.Add(want.Mul(want, big.NewInt(int64(len(names)))), big.NewInt(1))
			most := math.MaxInt
			if want.IsInt64() {
				most = int(want.Int64())
			}
			if x.Count() != most || x.Depth() != level+1 {
				t.Fatalf("%d names, level %d: %d, %d", len(names), level, x.Count(), x.Depth())
			}
		}
	}
}

func TestP4_5AtAndSub(t *testing.T) {
	n := sample()
	x, m := of(t, n), flat(n)
	for p, want := range m {
		v, ok := x.At(p)
		s, there := x.Sub(p)
		if !ok || !there || v != want.v {
			t.Fatalf("%q: %v, %v, %v", p, v, ok, there)
		}
		below := map[string]thing{}
		for q, w := range m {
			if p == "" || q == p || strings.HasPrefix(q, p+"/") {
				below[strings.TrimPrefix(strings.TrimPrefix(q, p), "/")] = w
			}
		}
		holds(t, s, below)
	}
}

// noPaths: texts that path.Split refuses with 64.
func noPaths() map[string]api.Errno {
	return map[string]api.Errno{
		"/": 30, "/a": 30, "a/": 30, "d//e": 30, "d/": 30, ".": 30, "./a": 30, "d/.": 30, "d/../a": 30, "..": 30, "a\x00": 30, "d/\x00": 30, strings.Repeat("n", 256): 30,
		strings.Repeat("z/", 64) + "z": 31, strings.Repeat("/", 64): 31, strings.Repeat("z/", 64): 31, strings.Repeat("d/", 1<<20): 31,
	}
}

func TestP4_5NothingThere(t *testing.T) {
	x, deep := of(t, sample()), of(t, chain(file("z", 1), 64))
	l := []string{"b", "A", "a/x", "a.b/x", "a b/x", "d/d/z", "d/x", "d/d/x/y", "e", "d/d/x/y/z/w", "zz", "\xff", strings.Repeat("n", 255)}
	for p := range noPaths() {
		l = append(l, p)
	}
	for _, p := range l {
		for _, x := range []*Tree{x, deep, of(t, file("", 1)), of(t, link("", 1))} {
			v, ok := x.At(p)
			s, there := x.Sub(p)
			if ok || there || s != nil || v != (api.Value{}) {
				t.Errorf("%.80q: %v, %v, %v, %v", p, v, ok, s, there)
			}
		}
	}
	p := strings.TrimSuffix(strings.Repeat("z/", 64), "/")
	if v, ok := deep.At(p); !ok || v.Kind != api.File {
		t.Errorf("64 names: %v, %v", v, ok)
	}
}

func TestP4_5All(t *testing.T) {
	want := []string{"", "a", "a b", "a.b", "d", "d/d", "d/d/x", "d/d/y", "d/e", "d/\xff", "z"}
	var l []string
	for p, v := range of(t, sample()).All() {
		l = append(l, p)
		if v != flat(sample())[p].v {
			t.Errorf("%q: %v", p, v)
		}
	}
	if !slices.Equal(l, want) {
		t.Errorf("%q", l)
	}
	for _, n := range []api.Node{dir("", 3), file("", 3), link("", 3)} {
		if got := taken(of(t, n).All(), 9); !slices.Equal(got, []string{fmt.Sprint("", n.Value)}) {
			t.Errorf("%q", got)
		}
	}
}

// taken: the first so many of what an iterator gives; it is left at the last one.
func taken[V any](it iter.Seq2[string, V], most int) []string {
	var l []string
	for p, v := range it {
		l = append(l, fmt.Sprint(p, v))
		if len(l) == most {
			break
		}
	}
	return l
}

func TestP4_5IteratorsAreLeft(t *testing.T) {
	x := of(t, sample())
	heldIterator(t, x.All(), 11)
	heldIterator(t, x.Children(), 5)
	heldIterator(t, of(t, dir("", 7)).All(), 1)
	heldIterator(t, of(t, dir("", 7)).Children(), 0)
	heldIterator(t, of(t, file("", 7)).Children(), 0)
}

// heldIterator leaves an iterator at each of its places, and goes through it again, within itself and pulled.
func heldIterator[V any](t *testing.T, it iter.Seq2[string, V], n int) {
	t.Helper()
	whole := taken(it, n+1)
	if len(whole) != n {
		t.Fatalf("%d of %d", len(whole), n)
	}
	for k := range n {
		if got := taken(it, k+1); !slices.Equal(got, whole[:k+1]) {
			t.Errorf("left at %d: %q", k, got)
		}
	}
	i := 0
	for p, v := range it {
		if fmt.Sprint(p, v) != whole[i] || !slices.Equal(taken(it, n+1), whole) {
			t.Errorf("within itself, at %d", i)
		}
		i++
	}
	next, stop := iter.Pull2(it)
	defer stop()
	for i := range n {
		if p, v, ok := next(); !ok || fmt.Sprint(p, v) != whole[i] {
			t.Errorf("pulled, at %d", i)
		}
	}
}
