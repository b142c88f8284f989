package diff

import (
	"fmt"
	"maps"
	"math/rand"
	"reflect"
	"slices"
	"strings"
	"testing"

	"twine/api"
	"twine/tree"
)

// This file: trees to try, and the promises in the plainest way, over maps of paths.

func dir(name string, mode int, kids ...api.Node) api.Node {
	return api.Node{Name: name, Value: api.Value{Kind: api.Dir, Mode: mode}, Kids: kids}
}

func file(name string, size int) api.Node {
	return api.Node{Name: name, Value: fileValue(size)}
}

func marked(name string, size int) api.Node {
	n := file(name, size)
	n.Marks = [2]api.Mark{{Number: 1 + size, Stamp: 2 + size}, {Number: 3 + size, Stamp: 4 + size}}
	return n
}

func link(name string, size int) api.Node {
	return api.Node{Name: name, Value: linkValue(size)}
}

func named(name string, n api.Node) api.Node {
	n.Name = name
	return n
}

func dirValue(mode int) api.Value { return api.Value{Kind: api.Dir, Mode: mode} }

func fileValue(size int) api.Value {
	return api.Value{Kind: api.File, Mode: 6, Size: size, Sum: [32]byte{byte(size), 31: 1}}
}

func linkValue(size int) api.Value {
	return api.Value{Kind: api.Link, Size: size, Sum: [32]byte{byte(size), 31: 2}}
}

func nothing() api.Value { return api.Value{} }

// some: each kind, files with marks, names that stand in an order of their own beside their directory's.
func some() api.Node {
	return dir("", 7,
		marked("...", 3),
		dir("a", 5,
			dir("b", api.Unknown),
			dir("c", 0, marked("x", 1), file("y", api.MaxSize), link("z", 1)),
			marked(strings.Repeat("n", api.MaxName), 200),
		),
		marked("a b", 128),
		link("a.b", api.MaxTarget),
		dir("d", 7, marked("f", 9)),
		marked("d.x", 10),
		dir("e", 7),
		file("\xff", 1),
	)
}

// chain: n below so many directories.
func chain(n api.Node, levels int) api.Node {
	n.Name = "z"
	for range levels {
		n = dir("z", 5, n)
	}
	n.Name = ""
	return n
}

// zs: a path of so many names.
func zs(n int) string { return strings.TrimSuffix(strings.Repeat("z/", n), "/") }

// smallTrees: all trees of at most so many levels over these names, of a few values.
func smallTrees(levels int, names ...string) []api.Node {
	l := []api.Node{marked("", 3), file("", 4), link("", 3), dir("", 7), dir("", 5)}
	if levels == 0 {
		return l
	}
	lists := [][]api.Node{nil}
	for _, name := range names {
		for _, kids := range slices.Clone(lists) {
			for _, n := range smallTrees(levels-1, names...) {
				lists = append(lists, append(slices.Clone(kids), named(name, n)))
			}
		}
	}
	for _, kids := range lists[1:] {
		l = append(l, dir("", 7, kids...))
	}
	return l
}

func of(t testing.TB, n api.Node) *tree.Tree {
	t.Helper()
	x, e := tree.Of(n)
	if e != api.OK {
		t.Fatalf("tree.Of: %d", e)
	}
	return x
}

// thing: what stands at a path.
type thing struct {
	v api.Value
	m [2]api.Mark
}

// plain: a tree as its paths.
type plain map[string]thing

func flat(n api.Node) plain {
	m := plain{}
	m.add("", n)
	return m
}

func (m plain) add(p string, n api.Node) {
	m[p] = thing{n.Value, n.Marks}
	for _, k := range n.Kids {
		m.add(strings.TrimPrefix(p+"/"+k.Name, "/"), k)
	}
}

func namesOf(p string) []string {
	if p == "" {
		return nil
	}
	return strings.Split(p, "/")
}

func compare(a, b string) int { return slices.Compare(namesOf(a), namesOf(b)) }

// plainOf: P13.1.
func plainOf(t, u plain) []api.Change {
	both := maps.Clone(t)
	maps.Copy(both, u)
	var l []api.Change
	for _, p := range slices.SortedFunc(maps.Keys(both), compare) {
		if t[p].v != u[p].v {
			l = append(l, api.Change{Path: p, Old: t[p].v, New: u[p].v})
		}
	}
	return l
}

func isPath(p string) bool {
	l := namesOf(p)
	for _, name := range l {
		if name == "" || name == "." || name == ".." || len(name) > 255 || strings.Contains(name, "\x00") {
			return false
		}
	}
	return len(l) <= 64
}

func isValue(v api.Value) bool {
	none := [32]byte{}
	switch v.Kind {
	case 0:
		return v == nothing()
	case 1:
		return v.Mode >= 0 && v.Mode <= 8 && v.Size == 0 && v.Sum == none
	case 2:
		return v.Mode >= 0 && v.Mode <= 8 && v.Size >= 0 && v.Size <= 1<<40-1
	case 3:
		return v.Mode == 0 && v.Size >= 1 && v.Size <= 4095
	}
	return false
}

func wrongOrder(l []api.Change) bool {
	for i, c := range l {
		if !isPath(c.Path) || c.Old == c.New || i > 0 && compare(l[i-1].Path, c.Path) >= 0 {
			return true
		}
	}
	return false
}

// plainApply: P13.2.
func plainApply(t plain, l []api.Change) (plain, api.Errno) {
	if wrongOrder(l) {
		return nil, api.ErrDiffOrder
	}
	for _, c := range l {
		if t[c.Path].v != c.Old {
			return nil, api.ErrDiffOld
		}
	}
	u := maps.Clone(t)
	for _, c := range l {
		if !isValue(c.New) {
			return nil, api.ErrDiffShape
		}
		if u[c.Path] = (thing{v: c.New}); c.New.Kind == 0 {
			delete(u, c.Path)
		}
	}
	if !u.isTree() {
		return nil, api.ErrDiffShape
	}
	return u, api.OK
}

func (m plain) isTree() bool {
	for p := range m {
		l := namesOf(p)
		for i := range l {
			if m[strings.Join(l[:i], "/")].v.Kind != api.Dir {
				return false
			}
		}
	}
	_, ok := m[""]
	return ok
}

// plainThen: P13.4.
func plainThen(a, b []api.Change) ([]api.Change, api.Errno) {
	if wrongOrder(a) || wrongOrder(b) {
		return nil, api.ErrDiffOrder
	}
	m := map[string]api.Change{}
	for _, c := range a {
		m[c.Path] = c
	}
	for _, c := range b {
		if first, ok := m[c.Path]; ok {
			if first.New != c.Old {
				return nil, api.ErrDiffOld
			}
			c.Old = first.Old
		}
		m[c.Path] = c
	}
	var l []api.Change
	for _, p := range slices.SortedFunc(maps.Keys(m), compare) {
		if m[p].Old != m[p].New {
			l = append(l, m[p])
		}
	}
	return l, api.OK
}

// all: what Of gives.
func all(t, u *tree.Tree) []api.Change { return slices.Collect(Of(t, u)) }

func told(l []api.Change) string {
	var s strings.Builder
	for _, c := range l {
		p := c.Path
		if len(p) > 20 {
			p = fmt.Sprintf("%.20s..%d", p, len(p))
		}
		fmt.Fprintf(&s, "%q %d.%d.%d.%x>%d.%d.%d.%x ", p, c.Old.Kind, c.Old.Mode, c.Old.Size, c.Old.Sum[0], c.New.Kind, c.New.Mode, c.New.Size, c.New.Sum[0])
	}
	return s.String()
}

func wantList(t testing.TB, what string, got, want []api.Change) {
	t.Helper()
	if !slices.Equal(got, want) {
		t.Errorf("%s:\n%s, want\n%s", what, told(got), told(want))
	}
}

// holds looks that x has just what m says, marks too.
func holds(t testing.TB, what string, x *tree.Tree, m plain) {
	t.Helper()
	if x == nil {
		t.Errorf("%s: no tree", what)
		return
	}
	if got := flat(x.Node()); !reflect.DeepEqual(got, m) {
		t.Errorf("%s: another tree", what)
	}
}

// applied holds what Apply answers against the plain one, and looks that t stays.
func applied(t testing.TB, what string, x *tree.Tree, m plain, l []api.Change) api.Errno {
	t.Helper()
	given := slices.Clone(l)
	y, e := Apply(x, l)
	want, f := plainApply(m, l)
	if e != f || (y == nil) != (e != api.OK) {
		t.Errorf("%s: %d, want %d: %s", what, e, f, told(l))
	}
	if e == api.OK && f == api.OK {
		holds(t, what, y, want)
	}
	wantList(t, what+": the list", l, given)
	return e
}

// refused looks that Apply refuses a list by an error, and leaves the tree and the list as they were.
func refused(t testing.TB, what string, n api.Node, l []api.Change, want api.Errno) {
	t.Helper()
	x := of(t, n)
	if e := applied(t, what, x, flat(n), l); e != want {
		t.Errorf("%s: %d, want %d", what, e, want)
	}
	holds(t, what+": t", x, flat(n))
}

// taken looks that Apply takes a list.
func taken(t testing.TB, what string, n api.Node, l []api.Change) *tree.Tree {
	t.Helper()
	x := of(t, n)
	if e := applied(t, what, x, flat(n), l); e != api.OK {
		t.Fatalf("%s: %d", what, e)
	}
	holds(t, what+": t", x, flat(n))
	y, _ := Apply(x, l)
	return y
}

// joined holds what Then answers against the plain one, and looks that the lists stay.
func joined(t testing.TB, what string, a, b []api.Change) ([]api.Change, api.Errno) {
	t.Helper()
	one, other := slices.Clone(a), slices.Clone(b)
	l, e := Then(a, b)
	want, f := plainThen(a, b)
	if e != f || e != api.OK && len(l) != 0 {
		t.Errorf("%s: %d with %d changes, want %d", what, e, len(l), f)
	}
	wantList(t, what, l, want)
	wantList(t, what+": the first list", a, one)
	wantList(t, what+": the second list", b, other)
	return l, e
}

// author: it makes up trees and lists.
type author struct{ *rand.Rand }

func newAuthor(seed int64) author { return author{rand.New(rand.NewSource(seed))} }

// tree: few names and few values, so that two trees have much in common.
func (a author) tree(levels int) api.Node {
	n := dir("", 6+a.Intn(2))
	for _, name := range []string{"a", "a.b", "b", "b\x01", "c"} {
		if a.Intn(3) > 0 {
			n.Kids = append(n.Kids, named(name, a.thing(levels-1)))
		}
	}
	return n
}

func (a author) thing(levels int) api.Node {
	k := a.Intn(6)
	switch {
	case k == 0:
		return link("", 1+a.Intn(2))
	case k == 1:
		return marked("", a.Intn(3))
	case k == 2 || levels <= 0:
		return file("", a.Intn(3))
	}
	return a.tree(levels)
}

func (a author) value() api.Value {
	return []api.Value{nothing(), dirValue(7), dirValue(6), fileValue(0), fileValue(1), linkValue(1), linkValue(0), dirValue(9)}[a.Intn(8)]
}

// spoil: a list with one thing of it changed; it may be right nonetheless.
func (a author) spoil(l []api.Change) []api.Change {
	l = slices.Clone(l)
	if len(l) == 0 {
		return append(l, api.Change{Path: "c", Old: a.value(), New: a.value()})
	}
	i := a.Intn(len(l))
	switch a.Intn(7) {
	case 0:
		return slices.Delete(l, i, i+1)
	case 1:
		return slices.Insert(l, i, l[a.Intn(len(l))])
	case 2:
		j := a.Intn(len(l))
		l[i], l[j] = l[j], l[i]
	case 3:
		l[i].Old = a.value()
	case 4, 5:
		l[i].New = a.value()
	case 6:
		l[i].Path += []string{"/", "/c", "x", "/\x00", "/" + zs(62)}[a.Intn(5)]
	}
	return l
}
