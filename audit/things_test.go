package audit

import (
	"fmt"
	"math"
	"slices"
	"strings"
	"testing"

	"twine/api"
	"twine/rules"
	"twine/world"
)

// This file: P21.1, which things can be a volume's.

// names: a path of so many names.
func names(n int) string { return strings.TrimSuffix(strings.Repeat("n/", n), "/") }

// chain: directories down to a path.
func chain(p string, number int) []api.Thing {
	var l []api.Thing
	for ; p != ""; p = above(p) {
		l = append(l, api.Thing{Path: p, Kind: api.Dir, Mode: 7, Number: number + len(l), Stamp: 1})
	}
	return l
}

func zeros(n int) []byte { return slices.Repeat([]byte{'t'}, n) }

func dirThing(p string) api.Thing {
	return api.Thing{Path: p, Kind: api.Dir, Mode: 7, Number: 1, Stamp: 1}
}
func fileThing(p string) api.Thing {
	return api.Thing{Path: p, Kind: api.File, Mode: 6, Data: []byte("abc"), Sure: 2, Number: 1, Stamp: 1}
}
func linkThing(p string) api.Thing {
	return api.Thing{Path: p, Kind: api.Link, Data: []byte("to"), Number: 1, Stamp: 1}
}

// with: a thing that is another one.
func with(x api.Thing, change func(x *api.Thing)) api.Thing {
	change(&x)
	return x
}

// lone: a list of one thing, and of the directories above it.
func lone(x api.Thing) []api.Thing {
	return slices.Concat(chain(above(x.Path), 1000), []api.Thing{x})
}

// takes looks that things are taken, or refused, by all three calls, on each volume.
func takes(t testing.TB, what string, l []api.Thing, taken bool) {
	t.Helper()
	wanted := api.ErrAuditThings
	if taken {
		wanted = api.OK
	}
	x, held, e := Replica(l, rules.None())
	want(t, what+": Replica", e, wanted)
	want(t, what+": its tree", x != nil, taken)
	if !taken && held != nil {
		t.Errorf("%s: held: %q", what, held)
	}
	for v := range 3 {
		var vols [3][]api.Thing
		vols[v] = l
		faults, e := Faults(vols, rules.None(), api.MaxNodes)
		want(t, fmt.Sprint(what, ": Faults of volume ", v), e, wanted)
		if !taken && len(faults) > 0 {
			t.Errorf("%s: faults: %s", what, toldFaults(faults))
		}
		o, e := After(vols, rules.None(), api.MaxNodes)
		want(t, fmt.Sprint(what, ": After of volume ", v), e, wanted)
		want(t, what+": its outlook", isZero(o), !taken)
	}
	want(t, what+": the plain one", canBe(l), taken)
}

func TestP21_1Paths(t *testing.T) {
	long := strings.Repeat("l", 255)
	for _, p := range []string{"f", "...", "a b", "\xff", "\x01", "archive.new/x", "d/f", "d/.twine", ".twin", ".twines", long, long + "/" + long, names(64), ".twine", ".twine/f", ".twine/" + names(63), ".twine/" + names(64), ".twine/" + names(65)} {
		for _, x := range []api.Thing{dirThing(p), fileThing(p), linkThing(p)} {
			takes(t, fmt.Sprintf("%.40q, kind %d", p, x.Kind), lone(x), true)
		}
	}
	for _, p := range []string{"/", "//", "/f", "f/", "d//f", ".", "..", "d/.", "d/..", "./f", "a\x00", "\x00", long + "l", "d/" + long + "l", names(65), names(66), "d/.twine/" + names(63), ".twines/" + names(64), ".twin/" + names(64), ".twine/" + names(66), ".twine/", ".twine//f", ".twine/.", ".twine/\x00"} {
		for _, x := range []api.Thing{dirThing(p), fileThing(p), linkThing(p)} {
			takes(t, fmt.Sprintf("%.40q, kind %d", p, x.Kind), []api.Thing{x}, false)
			takes(t, fmt.Sprintf("%.40q, kind %d, all above", p, x.Kind), lone(x), false)
		}
	}
}

func TestP21_1Above(t *testing.T) {
	for _, c := range []struct {
		line  string
		taken bool
	}{
		{"d@7 d/f:6=x", true},
		{"d/f:6=x d@7", true},
		{"d/e/f:6=x d@7 d/e@5", true},
		{"d/e/f:6=x d/e@7 d@0 @3", true},
		{"d/f:6=x", false},
		{"@7 d/f:6=x", false},
		{"d/e@7 d/e/f:6=x", false},
		{"d@7 d/e/f:6=x", false},
		{"d:6=x d/f:6=x", false},
		{"d>to d/f:6=x", false},
		{"d@7 d/e:6= d/e/f@7", false},
		{"d@7 d/e>to d/e/l>to", false},
		{"d/f:6=x d:6=x", false},
		{"e@7 d/f:6=x", false},
		{"dd@7 d/f:6=x", false},
		{".twine/1:6=x", false},
		{".twine:6=x .twine/1:6=x", false},
		{".twine@7 .twine/1:6=x", true},
	} {
		takes(t, c.line, things(101, c.line), c.taken)
	}
}

func TestP21_1Kinds(t *testing.T) {
	for _, kind := range []int{math.MinInt, -1, 0, 4, 5, math.MaxInt} {
		for _, x := range []api.Thing{dirThing("f"), fileThing("f"), linkThing("f"), dirThing("")} {
			takes(t, fmt.Sprint("kind ", kind), []api.Thing{with(x, func(x *api.Thing) { x.Kind = kind })}, false)
		}
	}
	takes(t, "the root", []api.Thing{dirThing("")}, true)
	takes(t, "a file as the root", []api.Thing{fileThing("")}, false)
	takes(t, "an empty file as the root", []api.Thing{with(fileThing(""), func(x *api.Thing) { x.Data, x.Sure = nil, 0 })}, false)
	takes(t, "a link as the root", []api.Thing{linkThing("")}, false)
	takes(t, "a file as the root, a thing below", []api.Thing{fileThing(""), with(fileThing("f"), func(x *api.Thing) { x.Number = 2 })}, false)
}

func TestP21_1Modes(t *testing.T) {
	for mode := -2; mode <= 10; mode++ {
		set := func(x *api.Thing) { x.Mode = mode }
		for _, p := range []string{"f", "", ".twine"} {
			takes(t, fmt.Sprintf("directory %q, mode %d", p, mode), []api.Thing{with(dirThing(p), set)}, mode >= 0 && mode <= 7)
		}
		takes(t, fmt.Sprint("file, mode ", mode), []api.Thing{with(fileThing("f"), set)}, mode >= 0 && mode <= 7)
		takes(t, fmt.Sprint("link, mode ", mode), []api.Thing{with(linkThing("f"), set)}, mode == 0)
	}
	for _, mode := range []int{math.MinInt, math.MaxInt, 256, 1 << 32} {
		for _, x := range []api.Thing{dirThing("f"), fileThing("f"), linkThing("f")} {
			takes(t, fmt.Sprint("mode ", mode), []api.Thing{with(x, func(x *api.Thing) { x.Mode = mode })}, false)
		}
	}
}

func TestP21_1Data(t *testing.T) {
	set := func(b []byte) func(x *api.Thing) {
		return func(x *api.Thing) { x.Data, x.Sure = b, 0 }
	}
	for _, p := range []string{"", "d"} {
		takes(t, "a directory with no bytes", []api.Thing{with(dirThing(p), set([]byte{}))}, true)
		takes(t, "a directory with a byte", []api.Thing{with(dirThing(p), set([]byte{0}))}, false)
	}
	for _, b := range [][]byte{nil, {}, {0}, zeros(511), zeros(512), zeros(513), zeros(5000)} {
		takes(t, fmt.Sprint("a file of ", len(b)), []api.Thing{with(fileThing("f"), set(b))}, true)
	}
	for _, b := range [][]byte{{1}, {'/'}, {255}, []byte("../x"), zeros(4094), zeros(4095)} {
		takes(t, fmt.Sprint("a target of ", len(b)), []api.Thing{with(linkThing("f"), set(b))}, true)
	}
	for _, b := range [][]byte{nil, {}, {0}, {'a', 0}, {0, 'a'}, {'a', 0, 'a'}, zeros(4096), zeros(9000)} {
		takes(t, fmt.Sprint("a target of ", len(b)), []api.Thing{with(linkThing("f"), set(b))}, false)
	}
}

func TestP21_1Sure(t *testing.T) {
	for _, sure := range []int{math.MinInt, -1, 0, 1, 2, 3, 4, 5, math.MaxInt} {
		set := func(x *api.Thing) { x.Sure = sure }
		takes(t, fmt.Sprint("a file, sure ", sure), []api.Thing{with(fileThing("f"), set)}, sure >= 0 && sure <= 3)
		takes(t, fmt.Sprint("a directory, sure ", sure), []api.Thing{with(dirThing("f"), set)}, sure == 0)
		takes(t, fmt.Sprint("a link, sure ", sure), []api.Thing{with(linkThing("f"), set)}, sure == 0)
	}
}

func TestP21_1NumbersAndStamps(t *testing.T) {
	for _, n := range []int{math.MinInt, -1, 0, 1, 2, api.MaxBegin, api.MaxBegin + 1, api.MaxStamp - 1, api.MaxStamp, api.MaxStamp + 1, math.MaxInt} {
		right := n >= 1 && n <= 1<<56-1
		for _, x := range []api.Thing{dirThing(""), dirThing("f"), fileThing("f"), linkThing("f"), dirThing(".twine")} {
			takes(t, fmt.Sprint("number ", n), []api.Thing{with(x, func(x *api.Thing) { x.Number = n })}, right)
			takes(t, fmt.Sprint("stamp ", n), []api.Thing{with(x, func(x *api.Thing) { x.Stamp = n })}, right)
		}
	}
	a := with(fileThing("f"), func(x *api.Thing) { x.Number, x.Stamp = 1, api.MaxStamp })
	b := with(fileThing("g"), func(x *api.Thing) { x.Number, x.Stamp = api.MaxStamp, 1 })
	takes(t, "both edges", []api.Thing{a, b}, true)
}

func TestP21_1Twice(t *testing.T) {
	second := func(x *api.Thing) { x.Number = 2 }
	for _, p := range []string{"f", "", ".twine"} {
		takes(t, "a path twice", []api.Thing{dirThing(p), with(dirThing(p), second)}, false)
	}
	takes(t, "a path twice, of two kinds", []api.Thing{fileThing("f"), with(dirThing("f"), second)}, false)
	takes(t, "a path twice, the last ones", []api.Thing{dirThing("d"), with(fileThing("f"), second), with(fileThing("f"), func(x *api.Thing) { x.Number = 3 })}, false)
	takes(t, "two paths", []api.Thing{fileThing("f"), with(fileThing("g"), second)}, true)
	for _, l := range [][]api.Thing{
		{fileThing("f"), fileThing("g")},
		{dirThing(""), fileThing("g")},
		{fileThing("f"), dirThing(".twine")},
		{with(fileThing("e"), second), dirThing("f"), linkThing("g")},
		{fileThing("f"), fileThing("f")},
	} {
		takes(t, "a number twice", l, false)
	}
	takes(t, "a stamp twice", []api.Thing{fileThing("f"), with(fileThing("g"), second)}, true)
}

// A number may stand once in all three volumes; Replica asks of one volume alone.
func TestP21_1TwoVolumes(t *testing.T) {
	for v := range 3 {
		for w := range 3 {
			for _, x := range []api.Thing{dirThing(""), fileThing("f"), dirThing(".twine")} {
				var vols [3][]api.Thing
				vols[v] = append(vols[v], x)
				vols[w] = append(vols[w], with(linkThing("g"), func(x *api.Thing) { x.Number = 2 }), with(fileThing("h"), func(y *api.Thing) { y.Number = x.Number }))
				for _, l := range vols {
					if _, _, e := Replica(l, rules.None()); v != w {
						want(t, "Replica", e, api.OK)
					}
				}
				l, e := Faults(vols, rules.None(), 100)
				want(t, fmt.Sprint("Faults: on ", v, " and ", w), e, api.ErrAuditThings)
				want(t, "its faults", len(l), 0)
				refuses(t, fmt.Sprint("on ", v, " and ", w), vols, rules.None(), 100, api.ErrAuditThings)
			}
		}
	}
	vols := [3][]api.Thing{{with(fileThing("f"), func(x *api.Thing) { x.Number = 1 })}, {with(fileThing("f"), func(x *api.Thing) { x.Number = 2 })}, {with(fileThing("f"), func(x *api.Thing) { x.Number = 3 })}}
	finds(t, "three numbers, a path in all three", vols, rules.None(), 100, "a f unlike, b f unlike")
}

// twist makes something of things that they mostly can't be.
func (u author) twist(l []api.Thing) []api.Thing {
	l = slices.Clone(l)
	if len(l) == 0 {
		return l
	}
	x := &l[u.r.Intn(len(l))]
	y := l[u.r.Intn(len(l))]
	switch u.r.Intn(12) {
	case 0:
		x.Path = u.of("", "/", "a/", "a//b", "..", "q/r", y.Path, joined(y.Path, "a"), joined(y.Path, ""), names(u.one(64, 65)), joined(".twine", names(u.one(64, 65, 66))))
	case 1:
		x.Kind = u.r.Intn(6) - 1
	case 2:
		x.Mode = u.r.Intn(11) - 1
	case 3:
		x.Data = []byte(u.of("", "x", "\x00", "x\x00", strings.Repeat("t", 4095), strings.Repeat("t", 4096)))
	case 4:
		x.Sure = u.one(-1, 0, 1, len(x.Data), len(x.Data)+1)
	case 5:
		x.Number = u.one(-1, 0, 1, y.Number, api.MaxBegin)
	case 6:
		x.Stamp = u.one(-1, 0, 1, y.Stamp, api.MaxBegin)
	case 7:
		l = append(l, with(y, func(x *api.Thing) { x.Number = 999 }))
	case 8:
		i := u.r.Intn(len(l))
		l = slices.Delete(l, i, i+1)
	case 9:
		x.Kind, x.Data, x.Mode, x.Sure = api.Link, []byte("to"), 0, 0
	}
	return l
}

// What the world takes, with room and a clock for it, and numbers that it may begin with, can be volumes'; what it refuses can't.
func TestP21_1World(t *testing.T) {
	t.Parallel()
	taken, refused := 0, 0
	for seed := range 6000 {
		u := authorOf(seed)
		s := u.scene(t)
		u.odd(t, &s)
		v := u.r.Intn(3)
		for range u.r.Intn(3) {
			s.vols[v] = u.twist(s.vols[v])
		}
		if u.rarely(9) && len(s.vols[0]) > 0 && len(s.vols[1]) > 0 {
			s.vols[1][0].Number = s.vols[0][0].Number
		}
		_, wrong := world.New(api.Caps{}, api.MaxBegin, s.vols)
		_, e := Faults(s.vols, s.rules, s.most)
		want(t, fmt.Sprint("scene ", seed, ": Faults"), e != api.OK, wrong != api.OK)
		_, e = After(s.vols, s.rules, s.most)
		want(t, fmt.Sprint("scene ", seed, ": After"), e == api.ErrAuditThings, wrong != api.OK)
		want(t, fmt.Sprint("scene ", seed, ": the plain one"), canBeAll(s.vols), wrong == api.OK)
		for v := range 3 {
			_, wrong := world.New(api.Caps{}, api.MaxBegin, [3][]api.Thing{s.vols[v]})
			_, _, e := Replica(s.vols[v], s.rules)
			want(t, fmt.Sprint("scene ", seed, ": Replica of volume ", v), e != api.OK, wrong != api.OK)
		}
		if wrong == api.OK {
			taken++
		} else {
			refused++
		}
	}
	if taken < 1500 || refused < 1500 {
		t.Errorf("but %d were taken, %d refused", taken, refused)
	}
}

// More names than a world's caps allow are no matter: caps apart.
func TestP21_1Caps(t *testing.T) {
	if testing.Short() {
		t.Skip("many things")
	}
	l := make([]api.Thing, 0, api.MaxNames+2)
	for i := range api.MaxNames + 1 {
		l = append(l, api.Thing{Path: fmt.Sprintf("skip/%x", i), Kind: api.Dir, Mode: 7, Number: i + 1, Stamp: 1})
	}
	l = append(l, api.Thing{Path: "skip", Kind: api.Dir, Mode: 7, Number: api.MaxStamp, Stamp: 1})
	x, _, e := Replica(l, parsed(t, "skip skip"))
	want(t, "Replica", e, api.OK)
	want(t, "its tree", toldTree(x), "@7")
}
