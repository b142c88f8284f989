package outcome

import (
	"reflect"
	"slices"
	"sync"
	"testing"

	"twine/api"
	"twine/plan"
)

// much: a question to which each kind of cell is the answer.
func much() question {
	return question{
		a:    marked(top(dir("b", 5), file("c", 2), dir("k", 7, file("f", 1)), file("m", 2), dir("n", 6), file("s", 1), dir("t", 7, file("u", 1))), 1, 91),
		b:    marked(top(dir("b", 7), file("c", 1), file("m", 3), dir("n", 5), file("s", 1)), 92, 2),
		o:    marked(top(dir("b", 7), file("c", 1), dir("k", 7, file("f", 1)), file("m", 1), dir("n", 7)), 81, 82),
		held: lists{{"", "k"}, nil},
	}
}

const muchDone = "/7 b/5 c:6.2(1,0) k/7 m:6.1(81,82) n/7 s:6.1(1,2) t/7 t/u:6.1(1,0)"

// given: what the calls are handed, in lists with spare room behind them.
type given struct {
	m    api.Merge
	p    api.Plan
	done []api.Done
	hows []int
}

func roomy[T any](l []T, spare ...T) []T {
	return append(slices.Clone(l), spare...)[:len(l)]
}

func handed(t testing.TB) given {
	m := much().merge(t)
	p := plan.Of(m, api.MaxNodes)
	p.Left = []int{99, -1}
	ends := allDone(p, api.HowPut)
	for i := range ends {
		ends[i].Put = roomy([]api.Placed{{Path: "x", Number: 1, Stamp: 2}}, api.Placed{Path: "spare"})
	}
	g := given{m: api.Merge{Cells: roomy(m.Cells, api.Cell{Path: "spare", What: api.Conflict})}, done: roomy(ends, ended(1, api.HowFailed))}
	g.p = api.Plan{Items: roomy(p.Items, item(1, 0)), Left: roomy(p.Left, 0, 1), Need: p.Need}
	g.hows = roomy(done(m), api.HowLeft, api.HowLeft)
	return g
}

// whole: all of a list, its spare room too.
func whole[T any](l []T) []T { return l[:cap(l)] }

func (g given) all() []any {
	l := []any{slices.Clone(whole(g.m.Cells)), slices.Clone(whole(g.p.Items)), slices.Clone(whole(g.p.Left)), slices.Clone(whole(g.hows)), g.p.Need}
	for _, d := range whole(g.done) {
		l = append(l, d.Item, d.How, slices.Clone(whole(d.Put)))
	}
	return l
}

// scrawl writes over everything that was handed in.
func (g given) scrawl() {
	for i := range whole(g.m.Cells) {
		whole(g.m.Cells)[i] = api.Cell{Path: "scrawl", What: api.Kept, Side: 7}
	}
	for i := range whole(g.p.Items) {
		whole(g.p.Items)[i] = api.Item{Number: 77}
	}
	for i := range whole(g.done) {
		clear(whole(whole(g.done)[i].Put))
		whole(g.done)[i] = ended(77, 77)
	}
	clear(whole(g.p.Left))
	scrawlOver(g.hows, 77)
}

func scrawlOver[T any](l []T, v T) {
	for i := range whole(l) {
		whole(l)[i] = v
	}
}

// What is handed in, and the room behind it, stays as it is.
func TestP18_1HandedIn(t *testing.T) {
	g := handed(t)
	before := g.all()
	Hows(g.m, g.p, g.done)
	if !reflect.DeepEqual(g.all(), before) {
		t.Error("Hows changed something")
	}
}

func TestP18_2HandedIn(t *testing.T) {
	g, q := handed(t), much()
	before := g.all()
	a, b, o := of(t, q.a), of(t, q.b), of(t, q.o)
	Archive(a, b, o, g.m, g.hows)
	if !reflect.DeepEqual(g.all(), before) {
		t.Error("Archive changed a list")
	}
	if toldNode(a.Node()) != toldNode(q.a) || toldNode(b.Node()) != toldNode(q.b) || toldNode(o.Node()) != toldNode(q.o) {
		t.Error("Archive changed a tree")
	}
}

func TestP18_3HandedIn(t *testing.T) {
	g := handed(t)
	before := g.all()
	Report(g.m, g.hows)
	if !reflect.DeepEqual(g.all(), before) {
		t.Error("Report changed something")
	}
}

// What was handed in may be written over behind the call, and what was handed out, the room behind it too: no other answer is touched.
func TestP18_1HandedOut(t *testing.T) {
	g := handed(t)
	want := plainHows(g.m, g.p, g.done)
	one, two := Hows(g.m, g.p, g.done), Hows(g.m, g.p, g.done)
	before := g.all()
	scrawlOver(one, 77)
	if three := Hows(g.m, g.p, g.done); !slices.Equal(two, want) || !slices.Equal(three, want) || !reflect.DeepEqual(g.all(), before) {
		t.Errorf("%v, %v, want %v", two, three, want)
	}
	g.scrawl()
	if !slices.Equal(two, want) {
		t.Errorf("%v, want %v", two, want)
	}
}

func TestP18_2HandedOut(t *testing.T) {
	g, q := handed(t), much()
	a, b, o := of(t, q.a), of(t, q.b), of(t, q.o)
	x := Archive(a, b, o, g.m, g.hows)
	g.scrawl()
	if got := toldNode(x.Node()); got != muchDone {
		t.Errorf("%s, want %s", got, muchDone)
	}
	n := x.Node()
	n.Kids[0].Name = "scrawl"
	x.Drop("c")
	x.Put("k", a)
	g = handed(t)
	if y := Archive(a, b, o, g.m, g.hows); toldNode(x.Node()) != muchDone || toldNode(y.Node()) != muchDone {
		t.Errorf("%s, %s", toldNode(x.Node()), toldNode(y.Node()))
	}
}

func TestP18_3HandedOut(t *testing.T) {
	g := handed(t)
	one, two := Report(g.m, g.hows), Report(g.m, g.hows)
	want := slices.Clone(two)
	before := g.all()
	scrawlOver(one, entry("scrawl", 7, 7, 7))
	if three := Report(g.m, g.hows); !slices.Equal(two, want) || !slices.Equal(three, want) || !reflect.DeepEqual(g.all(), before) {
		t.Error(two, three)
	}
	g.scrawl()
	if !slices.Equal(two, want) {
		t.Error(two)
	}
}

// Lists of nothing and no lists are the same.
func TestP18_2NoLists(t *testing.T) {
	q := much()
	m := q.merge(t)
	x, y := q.archiveOf(t, m, nil), q.archiveOf(t, m, []int{})
	if !reflect.DeepEqual(x.Node(), y.Node()) {
		t.Error(toldNode(x.Node()), toldNode(y.Node()))
	}
}

// Many ask at once, of the same trees and lists.
func TestP18_2AtOnce(t *testing.T) {
	g, q := handed(t), much()
	a, b, o := of(t, q.a), of(t, q.b), of(t, q.o)
	hows, report := Hows(g.m, g.p, g.done), Report(g.m, g.hows)
	var group sync.WaitGroup
	wrong := make([]bool, 8)
	for i := range wrong {
		group.Go(func() {
			for range 100 {
				h, r := Hows(g.m, g.p, g.done), Report(g.m, g.hows)
				x := Archive(a, b, o, g.m, g.hows)
				wrong[i] = wrong[i] || !slices.Equal(h, hows) || !slices.Equal(r, report) || toldNode(x.Node()) != muchDone
				clear(h)
				clear(r)
			}
		})
	}
	group.Wait()
	if slices.Contains(wrong, true) {
		t.Error("someone saw another thing")
	}
}
