package tree

import (
	"math"
	"strings"
	"testing"

	"twine/api"
)

// one tells what Check answers of a thing without children: as the root, as a child, and through Set.
func one(t *testing.T, v api.Value, m [2]api.Mark) api.Errno {
	t.Helper()
	p, e := Check(api.Node{Value: v, Marks: m})
	q, f := Check(dir("", 7, dir("d", 7, api.Node{Name: "k", Value: v, Marks: m})))
	want := ""
	if f != api.OK {
		want = "d/k"
	}
	_, g := of(t, dir("", 7, file("k", 1))).Set("k", v, m)
	if e != f || e != g || p != "" || q != want {
		t.Errorf("%v, %v: %q, %d; as a child %q, %d; by Set %d", v, m, p, e, q, f, g)
	}
	return e
}

// fieldRow: a field's value, and of which kinds it is right.
type fieldRow struct {
	n               int
	dir, file, link bool
}

func (r fieldRow) right(kind int) bool {
	return kind == api.Dir && r.dir || kind == api.File && r.file || kind == api.Link && r.link
}

func want(kind int, right bool) api.Errno {
	if kind < api.Dir || kind > api.Link {
		return api.ErrTreeKind
	}
	if !right {
		return api.ErrTreeField
	}
	return api.OK
}

func TestP4_1Values(t *testing.T) {
	modes := []fieldRow{
		{math.MinInt, false, false, false}, {-1, false, false, false}, {0, true, true, true}, {1, true, true, false}, {7, true, true, false}, {8, true, true, false}, {9, false, false, false}, {math.MaxInt, false, false, false},
	}
	sizes := []fieldRow{
		{math.MinInt, false, false, false}, {-1, false, false, false}, {0, true, true, false}, {1, false, true, true}, {2, false, true, true}, {4094, false, true, true}, {4095, false, true, true}, {4096, false, true, false}, {1<<40 - 2, false, true, false}, {1<<40 - 1, false, true, false}, {1 << 40, false, false, false}, {math.MaxInt, false, false, false},
	}
	for _, kind := range []int{math.MinInt, -1, api.Nothing, api.Dir, api.File, api.Link, 4, 5, math.MaxInt} {
		for _, mode := range modes {
			for _, size := range sizes {
				for at := -1; at < 32; at++ {
					v := api.Value{Kind: kind, Mode: mode.n, Size: size.n}
					if at >= 0 {
						v.Sum[at] = 1
					}
					right := mode.right(kind) && size.right(kind) && (at < 0 || kind != api.Dir)
					if e := one(t, v, [2]api.Mark{}); e != want(kind, right) {
						t.Fatalf("%v: %d", v, e)
					}
				}
			}
		}
	}
}

func TestP4_1Marks(t *testing.T) {
	most := 1<<56 - 1
	some := []int{math.MinInt, -1, 0, 1, 2, most - 1, most, most + 1, math.MaxInt}
	right := func(m api.Mark) bool {
		return m == api.Mark{} || m.Number >= 1 && m.Number <= most && m.Stamp >= 1 && m.Stamp <= most
	}
	values := []api.Value{{}, {Kind: api.Dir, Mode: 7}, {Kind: api.File, Mode: 7, Size: 1}, {Kind: api.Link, Size: 1}, {Kind: 4}}
	for _, number := range some {
		for _, stamp := range some {
			for _, other := range []api.Mark{{}, {Number: 1, Stamp: most}, {Number: 1}} {
				m := api.Mark{Number: number, Stamp: stamp}
				for _, v := range values {
					for _, l := range [][2]api.Mark{{m, other}, {other, m}} {
						ok := v.Kind == api.File && right(m) && right(other) || l == [2]api.Mark{}
						if e := one(t, v, l); e != want(v.Kind, ok) {
							t.Fatalf("%v, %v: %d", v, l, e)
						}
					}
				}
			}
		}
	}
}

type checkRow struct {
	n api.Node
	p string
	e api.Errno
}

func holdChecks(t *testing.T, rows []checkRow) {
	t.Helper()
	for i, c := range rows {
		p, e := Check(c.n)
		x, f := Of(c.n)
		if p != c.p || e != c.e || f != c.e || (x != nil) != (c.e == api.OK) {
			t.Errorf("row %d: %.80q, %d; Of %d; want %.80q, %d", i, p, e, f, c.p, c.e)
		}
	}
}

func with(n api.Node, kids ...api.Node) api.Node {
	n.Kids = kids
	return n
}

func bad(name string) api.Node { return dir(name, 9) }

func TestP4_2Kinds(t *testing.T) {
	holdChecks(t, []checkRow{
		{sample(), "", 0}, {api.Node{}, "", 40}, {with(api.Node{}, file("a", 1)), "", 40},
		{with(file("", 1), file("a", 1)), "", 40}, {with(link("", 1), file("a", 1)), "", 40}, {with(dir("", 1), file("a", 1)), "", 0},
		{dir("", 7, with(file("a", 1), file("b", 1))), "a", 40}, {dir("", 7, with(link("a", 1), file("b", 1))), "a", 40}, {dir("", 7, api.Node{Name: "a"}), "a", 40},
		{with(file("", 1), api.Node{}), "", 40}, {with(file("", 1), []api.Node{}...), "", 0}, {dir("", 7, dir("d", 7, api.Node{Name: "x", Value: api.Value{Kind: 4}})), "d/x", 40},
		{with(bad(""), file("a", 1)), "", 41}, {with(api.Node{Value: api.Value{Kind: 4, Mode: 9}}), "", 40}, {with(api.Node{Value: api.Value{Kind: api.File, Mode: 9}}, file("a", 1)), "", 40},
	})
}

func TestP4_2Names(t *testing.T) {
	long := strings.Repeat("n", 255)
	holdChecks(t, []checkRow{
		{dir("", 7, file(long, 1)), "", 0}, {dir("", 7, file(long+"n", 1)), long + "n", 30}, {dir("", 7, file("", 1)), "", 30}, {dir("", 7, file(".", 1)), ".", 30}, {dir("", 7, file("..", 1)), "..", 30}, {dir("", 7, file("...", 1)), "", 0}, {dir("", 7, file("a/b", 1)), "a/b", 30}, {dir("", 7, file("/", 1)), "/", 30}, {dir("", 7, file("a\x00", 1)), "a\x00", 30},
		{dir("", 7, dir("d", 7, file("", 1))), "d/", 30}, {dir("", 7, dir("d", 7, file("/", 1))), "d//", 30}, {dir("", 7, dir("d", 7, dir("e", 7, file("a/b", 1)))), "d/e/a/b", 30}, {dir("", 7, dir("\xff", 7, file("\xfe\x00", 1))), "\xff/\xfe\x00", 30},
		{dir("a/b", 7, dir("d", 7, file(".", 1))), "d/.", 30}, {dir("..", 7, file("a", 1)), "", 0},
	})
}

func TestP4_2Order(t *testing.T) {
	holdChecks(t, []checkRow{
		{dir("", 7, file("a", 1), file("b", 1)), "", 0}, {dir("", 7, file("b", 1), file("a", 1)), "a", 42}, {dir("", 7, file("a", 1), file("a", 1)), "a", 42}, {dir("", 7, file("a", 1), file("a", 2)), "a", 42}, {dir("", 7, file("a", 1), dir("a", 7)), "a", 42},
		{dir("", 7, file("a", 1), file("aa", 1), file("b", 1)), "", 0}, {dir("", 7, file("aa", 1), file("a", 1)), "a", 42}, {dir("", 7, file("a", 1), file("c", 1), file("b", 1)), "b", 42}, {dir("", 7, file("a", 1), file("b", 1), file("a", 1)), "a", 42}, {dir("", 7, file("Z", 1), file("a", 1)), "", 0}, {dir("", 7, file("z", 1), file("é", 1), file("\xff", 1)), "", 0}, {dir("", 7, file("\xff", 1), file("é", 1)), "é", 42}, {dir("", 7, file("10", 1), file("9", 1)), "", 0},
		{dir("", 7, dir("d", 7, file("b", 1), file("a", 1))), "d/a", 42}, {dir("", 7, dir("d", 7, file("z", 1)), dir("e", 7, file("a", 1))), "", 0}, {dir("z", 7, file("a", 1)), "", 0}, {dir("", 7, dir("d", 7, file("a", 1))), "", 0},
	})
}

func TestP4_2Deep(t *testing.T) {
	z := func(n int) string { return strings.TrimSuffix(strings.Repeat("z/", n), "/") }
	last := func(n api.Node) api.Node { n.Name = "z"; return n }
	holdChecks(t, []checkRow{
		{chain(last(file("", 1)), 64), "", 0}, {chain(last(dir("", 1)), 64), "", 0}, {chain(last(file("", 1)), 65), z(65), 43}, {chain(last(dir("", 1)), 65), z(65), 43}, {chain(last(dir("", 1)), 66), z(65), 43}, {chain(last(dir("", 1)), 5000), z(65), 43},
		// nothing of what lies too deep is looked at
		{chain(api.Node{Name: "z"}, 65), z(65), 43}, {chain(last(bad("")), 65), z(65), 43}, {chain(file("/..", 1), 65), z(64) + "//..", 43}, {chain(with(api.Node{Name: ""}, bad(".")), 65), z(64) + "/", 43}, {chain(with(dir("z", 1), file("b", 1), file("a", 1)), 64), z(64) + "/b", 43},
		// what stands ahead of it is told first
		{chain(last(bad("")), 64), z(64), 41}, {chain(with(bad("z"), file("", 1)), 64), z(64), 41}, {chain(with(file("z", 1), file("", 1)), 64), z(64), 40}, {dir("", 7, bad("a"), chainAt("z", 70)), "a", 41}, {dir("", 7, chainAt("z", 70), bad("a")), z(65), 43},
	})
}

func TestP4_2First(t *testing.T) {
	holdChecks(t, []checkRow{
		// of things: n, then its Kids, each with all below it ahead of the next one
		{with(bad(""), file("", 1)), "", 41}, {dir("", 7, dir("d", 7, bad("x")), bad("e")), "d/x", 41}, {dir("", 7, dir("d", 7, file("x", 1)), bad("e"), bad("f")), "e", 41}, {dir("", 7, dir("d", 7, dir("e", 7, bad("x")), file("a", 1)), file("a", 1)), "d/e/x", 41}, {dir("", 7, with(bad("d"), file("", 1)), file("", 1)), "d", 41},
		// of one thing's errors
		{dir("", 7, file("b", 1), with(api.Node{}, file("a", 1))), "", 30}, {dir("", 7, file("b", 1), with(api.Node{Name: "a"}, file("a", 1))), "a", 42}, {dir("", 7, file("b", 1), bad("a")), "a", 42}, {dir("", 7, file("a", 1), with(api.Node{Name: "b", Value: api.Value{Kind: api.Link, Mode: 9}}, bad("a"))), "b", 40}, {dir("", 7, file("b", 1), file(".", 1)), ".", 30},
	})
}

func TestP4_2Fields(t *testing.T) {
	half, strange := file("a", 3), dir("a", 7)
	half.Marks[1] = api.Mark{Stamp: 1}
	strange.Marks[1] = api.Mark{Number: 1, Stamp: 1}
	pointed := link("a", 3)
	pointed.Marks[0] = api.Mark{Number: 1, Stamp: 1}
	summed := dir("a", 7)
	summed.Value.Sum[31] = 1
	holdChecks(t, []checkRow{
		{dir("", 7, half), "a", 41}, {dir("", 7, strange), "a", 41}, {dir("", 7, pointed), "a", 41}, {dir("", 7, summed), "a", 41}, {dir("", 7, link("a", 0)), "a", 41}, {dir("", 7, marked("a", 1, 2, 3)), "", 0}, {strange, "", 41}, {half, "", 41},
	})
}

// Things are nested to the bound, and each list is long: Check comes to an end at the first fault.
func TestP4_2Wide(t *testing.T) {
	n := dir("", 7)
	for i := range 1 << 16 {
		n.Kids = append(n.Kids, file(string([]byte{'a' + byte(i>>12), 'a' + byte(i>>8&15), 'a' + byte(i>>4&15), 'a' + byte(i&15)}), 1))
	}
	holdChecks(t, []checkRow{{n, "", 0}})
	n.Kids[1<<16-1].Value.Mode = 9
	holdChecks(t, []checkRow{{n, "pppp", 41}})
	holdChecks(t, []checkRow{{chain(n, 1<<16-2), strings.Repeat("z/", 64) + "z", 43}})
}

func TestP4_2Unchanged(t *testing.T) {
	n := roomy(sample())
	Check(n)
	if !sameRoom(n, roomy(sample())) {
		t.Error("Check changes what is handed in")
	}
	n.Kids[3].Kids[0].Kids[1].Value.Mode = 9
	if p, e := Check(n); p != "d/d/y" || e != 41 {
		t.Errorf("%q, %d", p, e)
	}
}
