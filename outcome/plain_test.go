package outcome

import (
	"fmt"
	"maps"
	"math"
	"math/rand"
	"reflect"
	"slices"
	"strings"
	"testing"

	"twine/api"
	"twine/plan"
	"twine/recon"
	"twine/rules"
	"twine/tree"
)

// This file: trees to try, and the new archive in the plainest way, path by path over maps.

func dir(name string, mode int, kids ...api.Node) api.Node {
	return api.Node{Name: name, Value: api.Value{Kind: api.Dir, Mode: mode}, Kids: kids}
}

func file(name string, digest int) api.Node {
	return api.Node{Name: name, Value: api.Value{Kind: api.File, Mode: 6, Size: digest, Sum: [32]byte{byte(digest), 31: 1}}}
}

func link(name string, digest int) api.Node {
	return api.Node{Name: name, Value: api.Value{Kind: api.Link, Size: digest, Sum: [32]byte{byte(digest), 31: 2}}}
}

// top: a root of mode 7.
func top(kids ...api.Node) api.Node { return dir("", 7, kids...) }

// at: a root with n as d; none, if n has no kind.
func at(n api.Node) api.Node {
	if n.Value.Kind == api.Nothing {
		return top()
	}
	return top(named("d", n))
}

func named(name string, n api.Node) api.Node {
	n.Name = name
	return n
}

func moded(n api.Node, mode int) api.Node {
	n.Value.Mode = mode
	return n
}

func mark(n int) api.Mark {
	if n == 0 {
		return api.Mark{}
	}
	return api.Mark{Number: n, Stamp: n + 100}
}

// marked: each file in it has marks of these numbers.
func marked(n api.Node, a, b int) api.Node {
	if n.Value.Kind == api.File {
		n.Marks = [2]api.Mark{mark(a), mark(b)}
	}
	n.Kids = slices.Clone(n.Kids)
	for i := range n.Kids {
		n.Kids[i] = marked(n.Kids[i], a, b)
	}
	return n
}

// turned: with the marks of A and B exchanged.
func turned(n api.Node) api.Node {
	n.Marks[0], n.Marks[1] = n.Marks[1], n.Marks[0]
	n.Kids = slices.Clone(n.Kids)
	for i := range n.Kids {
		n.Kids[i] = turned(n.Kids[i])
	}
	return n
}

func of(t testing.TB, n api.Node) *tree.Tree {
	t.Helper()
	x, e := tree.Of(n)
	if e != api.OK {
		t.Fatalf("tree.Of: %d", e)
	}
	return x
}

func parsed(t testing.TB, text string) *rules.Rules {
	t.Helper()
	r, line, e := rules.Parse(text)
	if e != api.OK {
		t.Fatalf("rules: line %d, %d", line, e)
	}
	return r
}

// lists: A's and B's paths.
type lists = [2][]string

// question: what is merged.
type question struct {
	a, b, o    api.Node
	lost, held lists
	rules      string
}

func (q question) merge(t testing.TB) api.Merge {
	t.Helper()
	return recon.Merge(of(t, q.a), of(t, q.b), of(t, q.o), q.lost, q.held, parsed(t, q.rules))
}

// archive: what Archive answers, held against what is reckoned plainly; what was handed in stays.
func (q question) archive(t testing.TB, hows ...int) *tree.Tree {
	t.Helper()
	return q.archiveOf(t, q.merge(t), hows)
}

func (q question) archiveOf(t testing.TB, m api.Merge, hows []int) *tree.Tree {
	t.Helper()
	a, b, o := of(t, q.a), of(t, q.b), of(t, q.o)
	x := Archive(a, b, o, m, hows)
	if x == nil {
		t.Fatal("no tree")
	}
	if got, want := flat(x.Node()), q.plainly(m, hows); !maps.Equal(got, want) {
		t.Fatalf("%s, hows %v:\n%s, want\n%s", toldCells(m), hows, got.told(), want.told())
	}
	for i, y := range []*tree.Tree{a, b, o} {
		if want := of(t, []api.Node{q.a, q.b, q.o}[i]).Node(); !reflect.DeepEqual(y.Node(), want) {
			t.Fatalf("tree %d has changed", i)
		}
	}
	return x
}

// want looks that the new archive is what that text says, and with the sides exchanged the same with its marks exchanged.
func (q question) want(t testing.TB, what, text string, hows ...int) {
	t.Helper()
	x := q.archive(t, hows...)
	if got := flat(x.Node()).told(); got != text {
		t.Errorf("%s, hows %v:\n%s, want\n%s", what, hows, got, text)
	}
	if y := q.mirror(t).archive(t, hows...); !reflect.DeepEqual(turned(y.Node()), x.Node()) {
		t.Errorf("%s, hows %v: exchanged: %s", what, hows, flat(y.Node()).told())
	}
}

func (q question) mirror(t testing.TB) question {
	return question{turned(q.b), turned(q.a), turned(q.o), lists{q.lost[1], q.lost[0]}, lists{q.held[1], q.held[0]}, parsed(t, q.rules).Mirror().Text()}
}

// done: how all cells ended, if everything was done.
func done(m api.Merge) []int {
	p := plan.Of(m, api.MaxNodes)
	return Hows(m, p, allDone(p, api.HowPut))
}

func allDone(p api.Plan, how int) []api.Done {
	var l []api.Done
	for _, it := range p.Items {
		l = append(l, api.Done{Item: it.Number, How: how})
	}
	return l
}

// thing: what stands at a path.
type thing struct {
	value api.Value
	marks [2]api.Mark
}

// plain: a tree as its paths.
type plain map[string]thing

func flat(n api.Node) plain {
	m := plain{}
	m.add("", n)
	return m
}

func (m plain) add(p string, n api.Node) {
	m[p] = thing{n.Value, n.Marks}
	for _, k := range n.Kids {
		m.add(strings.TrimPrefix(p+"/"+k.Name, "/"), k)
	}
}

func namesOf(p string) []string {
	if p == "" {
		return nil
	}
	return strings.Split(p, "/")
}

func compare(a, b string) int { return slices.Compare(namesOf(a), namesOf(b)) }

// prefixes: the paths above p, from the root on, and p.
func prefixes(p string) []string {
	l := []string{""}
	names := namesOf(p)
	for i := range names {
		l = append(l, strings.Join(names[:i+1], "/"))
	}
	return l
}

// told: a line: of each path its kind (d, f, l), mode, size, and the numbers of a file's marks.
func (m plain) told() string {
	var s []string
	for _, p := range slices.SortedFunc(maps.Keys(m), compare) {
		v := m[p].value
		switch v.Kind {
		case api.Dir:
			s = append(s, fmt.Sprintf("%s/%d", p, v.Mode))
		case api.File:
			s = append(s, fmt.Sprintf("%s:%d.%d(%d,%d)", p, v.Mode, v.Size, m[p].marks[0].Number, m[p].marks[1].Number))
		default:
			s = append(s, fmt.Sprintf("%s>%d", p, v.Size))
		}
	}
	return strings.Join(s, " ")
}

func toldCells(m api.Merge) string {
	var s []string
	for _, c := range m.Cells {
		what := "?"
		if c.What >= 0 && c.What <= api.Kept {
			what = []string{"none", "Agreed", "Both", "Carry", "Conflict", "ModeConflict", "Kept"}[c.What]
		}
		s = append(s, fmt.Sprintf("%q %s side %d mode %d %d>%d", c.Path, what, c.Side, c.Mode, c.Keep, c.Take))
	}
	return strings.Join(s, "; ")
}

// plainHow: HowNone where hows is shorter.
func plainHow(hows []int, i int) int {
	if i < len(hows) {
		return hows[i]
	}
	return api.HowNone
}

// outlook: P18.2 in the plainest form.
type outlook struct {
	a, b, o plain
	cells   map[string]api.Cell
	hows    map[string]int
}

// plainly tells of each path that any tree has what the cells on the way to it say.
func (q question) plainly(m api.Merge, hows []int) plain {
	x := outlook{flat(q.a), flat(q.b), flat(q.o), map[string]api.Cell{}, map[string]int{}}
	for i, c := range m.Cells {
		x.cells[c.Path], x.hows[c.Path] = c, plainHow(hows, i)
	}
	out := plain{}
	for _, m := range []plain{x.a, x.b, x.o} {
		for p := range m {
			if v := x.at(p); v.value.Kind != api.Nothing {
				out[p] = v
			}
		}
	}
	return out
}

func (x outlook) at(p string) thing {
	for _, q := range prefixes(p) {
		c, how := x.cells[q], x.hows[q]
		switch c.What {
		case api.Agreed:
			if how == api.HowNone {
				return withMarks(x.a[p], x.a[p].marks[0], x.b[p].marks[1])
			}
			return x.o[p]
		case api.Carry:
			switch {
			case how == api.HowPut && c.Side == api.SideA:
				return withMarks(x.a[p], x.a[p].marks[0], api.Mark{})
			case how == api.HowPut && c.Side == api.SideB:
				return withMarks(x.b[p], api.Mark{}, x.b[p].marks[1])
			}
			return x.o[p]
		case api.Conflict:
			return x.o[p]
		case api.Both, api.ModeConflict, api.Kept:
			if v := x.directory(q, c, how); q == p || v.value.Kind == api.Nothing {
				return v
			}
		}
	}
	return thing{}
}

func withMarks(v thing, a, b api.Mark) thing {
	if v.value.Kind == api.File {
		v.marks = [2]api.Mark{a, b}
	}
	return v
}

func (x outlook) directory(p string, c api.Cell, how int) thing {
	old := x.o[p].value
	mode := c.Mode
	if c.What != api.Kept && how == api.HowLeft && old.Kind == api.Nothing {
		return thing{}
	}
	if c.What == api.Both && !(c.Side == 0 && how == api.HowNone || c.Side != 0 && how == api.HowPut) {
		mode = api.Unknown
		if old.Kind == api.Dir {
			mode = old.Mode
		}
	}
	return thing{value: api.Value{Kind: api.Dir, Mode: mode}}
}

// everyHow: the six, and numbers that are none of them.
func everyHow() []int {
	return []int{api.HowNone, api.HowPut, api.HowOvertaken, api.HowFailed, api.HowLeft, api.HowWeak, -1, 6, 99, math.MaxInt, math.MinInt}
}

// notDone: how a cell ends of which nothing was done.
func notDone() []int {
	return []int{api.HowOvertaken, api.HowFailed, api.HowLeft, api.HowWeak}
}

// things: what may stand at a path of a side.
func things() []api.Node {
	return []api.Node{
		{}, file("", 1), moded(file("", 1), 5), file("", 2), link("", 1),
		dir("", 7), dir("", 5), dir("", 7, file("f", 1)), dir("", 7, file("f", 2)), dir("", 7, file("f", 1), dir("g", 6, file("h", 3), link("i", 1), dir("j", 5))),
	}
}

// oldThings: what may stand at a path of the archive.
func oldThings() []api.Node {
	return append(things(), moded(file("", 1), 8), dir("", 8), dir("", 8, moded(file("f", 1), 8)))
}

// author: it makes up questions, the same ones each time.
type author struct{ *rand.Rand }

func newAuthor(seed int64) author { return author{rand.New(rand.NewSource(seed))} }

func (a author) names() []string { return []string{"a", "a.b", "b", "b\x01", "c"} }

func (a author) mode() int { return 6 + a.Intn(8)/7 }

// tree: few names and few values, so that two trees have much in common.
func (a author) tree(levels int) api.Node {
	n := dir("", a.mode())
	for _, name := range a.names() {
		if a.Intn(2) > 0 {
			n.Kids = append(n.Kids, named(name, a.thing(levels-1)))
		}
	}
	return n
}

func (a author) thing(levels int) api.Node {
	k := a.Intn(6)
	switch {
	case k == 0:
		return link("", 1+a.Intn(2))
	case k == 1:
		return moded(file("", a.Intn(3)), 5)
	case k == 2 || levels <= 0:
		return file("", a.Intn(3))
	}
	return a.tree(levels)
}

// edited: a tree with some of it changed.
func (a author) edited(n api.Node, levels int) api.Node {
	if n.Value.Kind != api.Dir || a.Intn(9) == 0 {
		return named(n.Name, a.thing(levels))
	}
	out := dir(n.Name, n.Value.Mode)
	if a.Intn(6) == 0 {
		out.Value.Mode = a.mode()
	}
	for _, name := range a.names() {
		i := slices.IndexFunc(n.Kids, func(k api.Node) bool { return k.Name == name })
		switch k := a.Intn(9); {
		case i >= 0 && k < 5:
			out.Kids = append(out.Kids, n.Kids[i])
		case i >= 0 && k < 8:
			out.Kids = append(out.Kids, a.edited(n.Kids[i], levels-1))
		case i < 0 && k == 0:
			out.Kids = append(out.Kids, named(name, a.thing(levels-1)))
		}
	}
	return out
}

// forgetful: a tree in which some modes aren't known.
func (a author) forgetful(n api.Node) api.Node {
	if n.Value.Kind != api.Link && a.Intn(4) == 0 {
		n.Value.Mode = api.Unknown
	}
	n.Kids = slices.Clone(n.Kids)
	for i := range n.Kids {
		n.Kids[i] = a.forgetful(n.Kids[i])
	}
	return n
}

// noting: each file has marks of its own, or none.
func (a author) noting(n api.Node) api.Node {
	if n.Value.Kind == api.File {
		n.Marks = [2]api.Mark{mark(a.Intn(3) * a.Intn(1000)), mark(a.Intn(3) * a.Intn(1000))}
	}
	n.Kids = slices.Clone(n.Kids)
	for i := range n.Kids {
		n.Kids[i] = a.noting(n.Kids[i])
	}
	return n
}

// asRoot: what is a directory.
func asRoot(n api.Node) api.Node {
	if n.Value.Kind != api.Dir {
		return top(named("a", n))
	}
	return n
}

func (a author) paths(most int) []string {
	var l []string
	for range a.Intn(most + 1) {
		names := make([]string, 1+a.Intn(3))
		for i := range names {
			names[i] = a.names()[a.Intn(5)]
		}
		l = append(l, strings.Join(names, "/"))
	}
	return l
}

// calm: a question with nothing lost or held, and no rules.
func (a author) calm() question {
	o := a.tree(3)
	q := question{a: a.noting(asRoot(a.edited(o, 3))), b: a.noting(asRoot(a.edited(o, 3))), o: a.noting(o)}
	switch a.Intn(6) {
	case 0:
		q.o = top()
	case 1, 2:
		q.o = a.forgetful(q.o)
	case 3:
		q.b = a.noting(q.a)
	}
	return q
}

func (a author) question() question {
	q := a.calm()
	if a.Intn(3) == 0 {
		q.lost = lists{a.paths(1), a.paths(1)}
		if a.Intn(9) == 0 {
			q.lost[0] = append(q.lost[0], "")
		}
	}
	if a.Intn(2) == 0 {
		for i := range q.held {
			for _, p := range a.paths(4) {
				q.held[i] = append(q.held[i], prefixes(p)[a.Intn(2):]...)
			}
		}
	}
	if a.Intn(2) == 0 {
		q.rules = []string{"prefer a *", "prefer b *", "prefer a a\nprefer b b", "prefer a **/a/**\nprefer b c", "prefer b /*"}[a.Intn(5)]
	}
	return q
}

// hows: any, some of them missing, or more than there are cells.
func (a author) hows(cells int) []int {
	l := make([]int, max(cells-2+a.Intn(6), 0))
	for i := range l {
		if a.Intn(3) > 0 {
			l[i] = everyHow()[a.Intn(len(everyHow()))]
		}
	}
	return l
}
