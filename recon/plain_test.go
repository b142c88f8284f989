package recon

import (
	"fmt"
	"maps"
	"math/rand"
	"reflect"
	"slices"
	"strings"
	"testing"

	"twine/api"
	"twine/rules"
	"twine/tree"
)

// This file: trees to try, and the merge in the plainest way, over maps of paths.

func dir(name string, mode int, kids ...api.Node) api.Node {
	return api.Node{Name: name, Value: api.Value{Kind: api.Dir, Mode: mode}, Kids: kids}
}

// file: of as many bytes as its digest says.
func file(name string, digest int) api.Node {
	return api.Node{Name: name, Value: api.Value{Kind: api.File, Mode: 6, Size: digest, Sum: [32]byte{byte(digest), 31: 1}}}
}

func link(name string, digest int) api.Node {
	return api.Node{Name: name, Value: api.Value{Kind: api.Link, Size: digest, Sum: [32]byte{byte(digest), 31: 2}}}
}

func marked(n api.Node, number int) api.Node {
	n.Marks = [2]api.Mark{{Number: number, Stamp: 2}, {Number: number + 1, Stamp: 3}}
	return n
}

func moded(n api.Node, mode int) api.Node {
	n.Value.Mode = mode
	return n
}

func named(name string, n api.Node) api.Node {
	n.Name = name
	return n
}

// top: a root of mode 7.
func top(kids ...api.Node) api.Node { return dir("", 7, kids...) }

// chain: n below so many directories.
func chain(n api.Node, levels int) api.Node {
	n.Name = "z"
	for range levels {
		n = dir("z", 5, n)
	}
	n.Name = ""
	return n
}

// zs: a path of so many names.
func zs(n int) string { return strings.TrimSuffix(strings.Repeat("z/", n), "/") }

// noPaths: texts that are no path.
func noPaths() []string {
	return []string{"/", "//", "d/", "/d", "d//f", ".", "..", "d/.", "d/../f", "./d", "d\x00", "\x00", "d/\x00/f", strings.Repeat("n", 256), "d/" + strings.Repeat("n", 256), zs(65), zs(65) + "/", zs(300)}
}

func of(t testing.TB, n api.Node) *tree.Tree {
	t.Helper()
	x, e := tree.Of(n)
	if e != api.OK {
		t.Fatalf("tree.Of: %d", e)
	}
	return x
}

func parsed(t testing.TB, text string) *rules.Rules {
	t.Helper()
	r, line, e := rules.Parse(text)
	if e != api.OK {
		t.Fatalf("rules: line %d, %d", line, e)
	}
	return r
}

// lists: A's and B's paths.
type lists = [2][]string

func ofA(l ...string) lists { return lists{l, nil} }
func ofB(l ...string) lists { return lists{nil, l} }

func exchanged(l lists) lists { return lists{l[1], l[0]} }

// plain: a tree as its paths.
type plain map[string]api.Value

func flat(n api.Node) plain {
	m := plain{}
	m.add("", n)
	return m
}

func (m plain) add(p string, n api.Node) {
	m[p] = n.Value
	for _, k := range n.Kids {
		m.add(strings.TrimPrefix(p+"/"+k.Name, "/"), k)
	}
}

func namesOf(p string) []string {
	if p == "" {
		return nil
	}
	return strings.Split(p, "/")
}

// prefixes: the paths above p, from the root on, and p.
func prefixes(p string) []string {
	l := []string{""}
	names := namesOf(p)
	for i := range names {
		l = append(l, strings.Join(names[:i+1], "/"))
	}
	return l
}

// within tells whether q is p, or lies below it.
func within(q, p string) bool { return p == "" || q == p || strings.HasPrefix(q, p+"/") }

func compare(a, b string) int { return slices.Compare(namesOf(a), namesOf(b)) }

func isPath(p string) bool {
	l := namesOf(p)
	for _, name := range l {
		if name == "" || name == "." || name == ".." || len(name) > 255 || strings.Contains(name, "\x00") {
			return false
		}
	}
	return len(l) <= 64
}

// sub: what stands at p and below it.
func (m plain) sub(p string) plain {
	s := plain{}
	for q, v := range m {
		if within(q, p) {
			s[q] = v
		}
	}
	return s
}

func (m plain) room() api.Room {
	r := api.Room{Names: len(m)}
	for _, v := range m {
		if v.Kind == api.File {
			r.Bytes += v.Size
		}
	}
	return r
}

// same tells whether two have the same values; open: an unknown mode of u is like any.
func (m plain) same(u plain, open bool) bool {
	return maps.EqualFunc(m, u, func(v, w api.Value) bool {
		if open && w.Mode == api.Unknown {
			v.Mode = w.Mode
		}
		return v == w
	})
}

// question: what Merge is asked.
type question struct {
	a, b, o    api.Node
	lost, held lists
	rules      string
}

// judge: a question in the plainest form.
type judge struct {
	trees      [3]plain // A, B, the archive
	lost, held lists
	prefer     func(p string) int
	cells      []api.Cell
	closed     map[string]bool // paths below which no cell is
	without    map[string]int  // of kept paths: the side that has them not
}

func (q question) plainly(t testing.TB) []api.Cell {
	j := &judge{trees: [3]plain{flat(q.a), flat(q.b), flat(q.o)}, lost: q.lost, held: q.held, prefer: parsed(t, q.rules).Prefer, closed: map[string]bool{}, without: map[string]int{}}
	paths := map[string]bool{}
	for _, m := range j.trees {
		for p := range m {
			paths[p] = true
		}
	}
	for _, p := range slices.Concat(q.lost[0], q.lost[1]) {
		for _, q := range prefixes(p) {
			if isPath(p) {
				paths[q] = true
			}
		}
	}
	for _, p := range slices.SortedFunc(maps.Keys(paths), compare) {
		j.come(p)
	}
	return j.cells
}

// come lays the cell of a path, if it is come to.
func (j *judge) come(p string) {
	shut := 0
	above := prefixes(p)
	for _, q := range above[:len(above)-1] {
		if j.closed[q] {
			return
		}
		shut = max(shut, j.without[q])
	}
	c := j.cell(p, shut)
	switch c.What {
	case api.Kept:
		j.without[p] = 3 - c.Side
	case api.Agreed, api.Carry, api.Conflict:
		j.closed[p] = true
	}
	j.cells = append(j.cells, c)
}

func (j *judge) holds(side int, p string) bool { return slices.Contains(j.held[side-1], p) }

// cell: DOC.md's rules, one behind the other.
func (j *judge) cell(p string, shut int) api.Cell {
	a, b, o := j.trees[0].sub(p), j.trees[1].sub(p), j.trees[2].sub(p)
	kinds := [3]int{a[p].Kind, b[p].Kind, o[p].Kind}
	conflict := api.Cell{Path: p, What: api.Conflict, Keep: len(o), Take: len(o)}
	bothDirs := kinds[0] == api.Dir && kinds[1] == api.Dir
	lostHere, lostInIt := false, false
	for _, q := range slices.Concat(j.lost[0], j.lost[1]) {
		lostHere = lostHere || q == p
		lostInIt = lostInIt || isPath(q) && within(q, p)
	}
	if lostInIt && !(bothDirs && !lostHere) {
		return conflict
	}
	if bothDirs {
		return j.modeCell(p)
	}
	for side := 1; side <= 2; side++ {
		if kinds[side-1] == api.Dir && j.holds(side, p) && kinds[2] == api.Dir && kinds[2-side] == 0 {
			return api.Cell{Path: p, What: api.Kept, Side: side, Mode: o[p].Mode, Keep: 1, Take: 1}
		}
	}
	if a.same(b, false) {
		return api.Cell{Path: p, What: api.Agreed, Keep: len(o), Take: len(a)}
	}
	side := j.prefer(p)
	if like := a.same(o, true); like != b.same(o, true) {
		side = map[bool]int{true: api.SideB, false: api.SideA}[like]
	}
	if side == 0 || shut == 3-side || j.holds(3-side, p) {
		return conflict
	}
	from, over := []plain{a, b}[side-1].room(), []plain{a, b}[2-side].room()
	return api.Cell{Path: p, What: api.Carry, Side: side, Keep: len(o), Take: from.Names, Names: from.Names, Bytes: from.Bytes, Had: over}
}

func (j *judge) modeCell(p string) api.Cell {
	a, b := j.trees[0][p].Mode, j.trees[1][p].Mode
	o, some := j.trees[2][p]
	c := api.Cell{Path: p, What: api.Both, Take: 1}
	if some {
		c.Keep = 1
	}
	known := o.Kind == api.Dir && o.Mode != api.Unknown
	switch {
	case a == b:
		c.Mode = a
	case known && a == o.Mode:
		c.Side, c.Mode = api.SideB, b
	case known && b == o.Mode:
		c.Side, c.Mode = api.SideA, a
	case j.prefer(p) != 0:
		c.Side = j.prefer(p)
		c.Mode = []int{a, b}[c.Side-1]
	case o.Kind == api.Dir:
		c.What, c.Mode = api.ModeConflict, o.Mode
	default:
		c.What, c.Mode = api.ModeConflict, api.Unknown
	}
	return c
}

// told: a cell as a text; what isn't told is zero.
func told(c api.Cell) string {
	var s strings.Builder
	p := c.Path
	if len(p) > 20 {
		p = fmt.Sprintf("%.20s..%d", p, len(p))
	}
	if p == "" {
		p = "/"
	}
	what := []string{"nothing", "Agreed", "Both", "Carry", "Conflict", "ModeConflict", "Kept"}[c.What]
	s.WriteString(p + " " + what)
	if c.Side != 0 {
		s.WriteString(" " + []string{"A", "B"}[c.Side-1])
	}
	if c.Mode != 0 || c.What == api.Both || c.What == api.ModeConflict || c.What == api.Kept {
		fmt.Fprintf(&s, " mode %d", c.Mode)
	}
	fmt.Fprintf(&s, " %d>%d", c.Keep, c.Take)
	if c.Names != 0 || c.Bytes != 0 || c.Had != (api.Room{}) {
		fmt.Fprintf(&s, " %d/%d over %d/%d", c.Names, c.Bytes, c.Had.Names, c.Had.Bytes)
	}
	return s.String()
}

func toldAll(l []api.Cell) string {
	var s []string
	for _, c := range l {
		s = append(s, told(c))
	}
	return strings.Join(s, "; ")
}

func wantCells(t testing.TB, what string, got, want []api.Cell) {
	t.Helper()
	if !slices.Equal(got, want) {
		t.Fatalf("%s:\n%s, want\n%s", what, toldAll(got), toldAll(want))
	}
}

// asked tells what Merge answers, and looks that what was handed in stays.
func (q question) asked(t testing.TB) []api.Cell {
	t.Helper()
	a, b, o := of(t, q.a), of(t, q.b), of(t, q.o)
	lost, held := roomy(q.lost), roomy(q.held)
	got := Merge(a, b, o, lost, held, parsed(t, q.rules)).Cells
	wantLists(t, "lost", lost, roomy(q.lost))
	wantLists(t, "held", held, roomy(q.held))
	wantTree(t, "a", a, q.a)
	wantTree(t, "b", b, q.b)
	wantTree(t, "o", o, q.o)
	return got
}

func (q question) mirror(t testing.TB) question {
	return question{q.b, q.a, q.o, exchanged(q.lost), exchanged(q.held), parsed(t, q.rules).Mirror().Text()}
}

// want looks that Merge answers these cells, the plain merge too, and with the sides exchanged the same ones exchanged.
func (q question) want(t testing.TB, what string, cells ...string) {
	t.Helper()
	got := q.asked(t)
	if toldAll(got) != strings.Join(cells, "; ") {
		t.Fatalf("%s:\n%s, want\n%s", what, toldAll(got), strings.Join(cells, "; "))
	}
	wantCells(t, what+", plainly", got, q.plainly(t))
	wantCells(t, what+", exchanged", q.mirror(t).asked(t), exchangedCells(got))
}

func exchangedCells(l []api.Cell) []api.Cell {
	l = slices.Clone(l)
	for i, c := range l {
		if c.Side != 0 {
			l[i].Side = 3 - c.Side
		}
	}
	return l
}

// roomy: lists with spare room behind them, in which something stands.
func roomy(l lists) lists {
	var out lists
	for i := range l {
		room := append(slices.Clone(l[i]), "d", "q1", "q2")
		out[i] = room[:len(l[i])]
	}
	return out
}

func wantLists(t testing.TB, what string, got, want lists) {
	t.Helper()
	for i := range got {
		if len(got[i]) != len(want[i]) || !slices.Equal(got[i][:len(got[i])+3], want[i][:len(want[i])+3]) {
			t.Errorf("%s: the list has changed: %.100q", what, got[i])
		}
	}
}

// wantTree looks that x is n, marks too.
func wantTree(t testing.TB, what string, x *tree.Tree, n api.Node) {
	t.Helper()
	if x == nil || !reflect.DeepEqual(x.Node(), of(t, n).Node()) {
		t.Errorf("%s: another tree", what)
	}
}

// author: it makes up questions.
type author struct{ *rand.Rand }

func newAuthor(seed int64) author { return author{rand.New(rand.NewSource(seed))} }

func (a author) names() []string { return []string{"a", "a.b", "b", "b\x01", "c"} }

// tree: few names and few values, so that two trees have much in common.
func (a author) tree(levels int) api.Node {
	n := dir("", a.mode())
	for _, name := range a.names() {
		if a.Intn(2) > 0 {
			n.Kids = append(n.Kids, named(name, a.thing(levels-1)))
		}
	}
	return n
}

func (a author) mode() int { return 6 + a.Intn(8)/7 }

func (a author) thing(levels int) api.Node {
	k := a.Intn(6)
	switch {
	case k == 0:
		return link("", 1+a.Intn(2))
	case k == 1:
		return moded(marked(file("", a.Intn(3)), 1), 5)
	case k == 2 || levels <= 0:
		return file("", a.Intn(3))
	}
	return a.tree(levels)
}

// edited: a tree with some of it changed.
func (a author) edited(n api.Node, levels int) api.Node {
	if n.Value.Kind != api.Dir || a.Intn(9) == 0 {
		return named(n.Name, a.thing(levels))
	}
	out := dir(n.Name, n.Value.Mode)
	if a.Intn(6) == 0 {
		out.Value.Mode = a.mode()
	}
	for _, name := range a.names() {
		i := slices.IndexFunc(n.Kids, func(k api.Node) bool { return k.Name == name })
		switch k := a.Intn(9); {
		case i >= 0 && k < 5:
			out.Kids = append(out.Kids, n.Kids[i])
		case i >= 0 && k < 8:
			out.Kids = append(out.Kids, a.edited(n.Kids[i], levels-1))
		case i < 0 && k == 0:
			out.Kids = append(out.Kids, named(name, a.thing(levels-1)))
		}
	}
	return out
}

// forgetful: a tree in which some modes aren't known.
func (a author) forgetful(n api.Node) api.Node {
	if n.Value.Kind != api.Link && a.Intn(4) == 0 {
		n.Value.Mode = api.Unknown
	}
	n.Kids = slices.Clone(n.Kids)
	for i := range n.Kids {
		n.Kids[i] = a.forgetful(n.Kids[i])
	}
	return n
}

func (a author) path() string {
	l := make([]string, 1+a.Intn(3))
	for i := range l {
		l[i] = a.names()[a.Intn(5)]
	}
	return strings.Join(l, "/")
}

func (a author) paths(most int) []string {
	var l []string
	for range a.Intn(most + 1) {
		l = append(l, a.path())
	}
	if a.Intn(30) == 0 {
		l = append(l, noPaths()[a.Intn(len(noPaths()))], a.path()+"/")
	}
	return l
}

// asRoot: what is a directory.
func asRoot(n api.Node) api.Node {
	if n.Value.Kind != api.Dir {
		return top(named("a", n))
	}
	return n
}

func (a author) question() question {
	o := a.tree(3)
	q := question{a: asRoot(a.edited(o, 3)), b: asRoot(a.edited(o, 3)), o: o}
	if a.Intn(3) == 0 {
		q.o = a.forgetful(o)
	}
	if a.Intn(3) == 0 {
		q.lost = lists{a.paths(1), a.paths(1)}
	}
	if a.Intn(2) == 0 {
		for i := range q.held {
			for _, p := range a.paths(4) {
				q.held[i] = append(q.held[i], prefixes(p)[a.Intn(2):]...)
			}
		}
	}
	if a.Intn(2) == 0 {
		q.rules = []string{"prefer a *", "prefer b *", "prefer a a\nprefer b b", "prefer a **/a/**\nprefer b c", "prefer b /*"}[a.Intn(5)]
	}
	return q
}
