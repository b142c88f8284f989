package world

import (
	"fmt"
	"math"
	"math/rand"
	"strings"
	"testing"

	"twine/api"
)

func inA(l ...api.Thing) [3][]api.Thing { return [3][]api.Thing{l, nil, nil} }

func dirThing(p string, number int) api.Thing {
	return api.Thing{Path: p, Kind: api.Dir, Mode: 5, Number: number, Stamp: 1}
}

func fileThing(p, data string, sure, number int) api.Thing {
	return api.Thing{Path: p, Kind: api.File, Mode: 6, Data: []byte(data), Sure: sure, Number: number, Stamp: 1}
}

func linkThing(p, target string, number int) api.Thing {
	return api.Thing{Path: p, Kind: api.Link, Data: []byte(target), Number: number, Stamp: 1}
}

// chain: directories below one another, the first one at first, the numbers from number on; and the last one's path.
func chain(first string, depth, number int) ([]api.Thing, string) {
	var l []api.Thing
	p := first
	for i := range depth {
		if i > 0 {
			p += "/d"
		}
		l = append(l, dirThing(p, number+i))
	}
	return l, p
}

func refused(t *testing.T, what string, caps api.Caps, clock int, things [3][]api.Thing) {
	t.Helper()
	if w, e := New(caps, clock, things); w != nil || e != api.ErrWorldThings {
		t.Errorf("%s: %v, %d, want nil, 225", what, w, e)
	}
}

func TestP9_1Clock(t *testing.T) {
	for _, clock := range []int{1, 2, api.MaxBegin} {
		w := made(t, api.Caps{}, clock, [3][]api.Thing{})
		want(t, "the clock", w.Clock(), clock)
		want(t, "the roots' stamps", told(w.Image(api.S)), fmt.Sprintf(`"" 1 7 "" 0 3 %d`, clock))
	}
	for _, clock := range []int{0, -1, api.MaxBegin + 1, math.MaxInt, math.MinInt} {
		refused(t, fmt.Sprint("clock ", clock), api.Caps{}, clock, [3][]api.Thing{})
	}
}

func TestP9_1Caps(t *testing.T) {
	for v := range 3 {
		for _, n := range []int{-1, math.MinInt} {
			var names, bytes api.Caps
			names.Names[v], bytes.Bytes[v] = n, n
			refused(t, fmt.Sprint("names ", v, n), names, 1, [3][]api.Thing{})
			refused(t, fmt.Sprint("bytes ", v, n), bytes, 1, [3][]api.Thing{})
		}
		for _, n := range []int{api.MaxNames + 1, math.MaxInt} {
			var names, bytes api.Caps
			names.Names[v], bytes.Bytes[v] = n, n
			refused(t, fmt.Sprint("names ", v, n), names, 1, [3][]api.Thing{})
			made(t, bytes, 1, [3][]api.Thing{})
		}
		var caps api.Caps
		caps.Names[v] = api.MaxNames
		made(t, caps, 1, [3][]api.Thing{})
	}
}

// Just as many names and bytes as there are, and one fewer: the root has no name, a link no bytes.
func TestP9_1CapsOfThings(t *testing.T) {
	for v := range 3 {
		var things [3][]api.Thing
		things[v] = []api.Thing{dirThing("", 1), dirThing("d", 2), fileThing("d/f", "abc", 1, 3), fileThing("e", "de", 2, 4), linkThing("l", "target", 5)}
		for _, l := range [][]api.Thing{things[v], things[v][1:]} {
			things[v] = l
			var caps api.Caps
			caps.Names[v], caps.Bytes[v] = 4, 5
			made(t, caps, 1, things)
			caps.Names[v], caps.Bytes[v] = 3, 5
			refused(t, "a name too many", caps, 1, things)
			caps.Names[v], caps.Bytes[v] = 4, 4
			refused(t, "a byte too many", caps, 1, things)
			caps.Names[v], caps.Bytes[v] = 0, 0
			made(t, caps, 1, things)
		}
	}
}

func TestP9_1AnyOrder(t *testing.T) {
	d, last := chain("a", 6, 10)
	l := append(d, fileThing(last+"/f", "abc", 2, 2), linkThing("a/l", "x", 3), dirThing("", 5), dirThing("a.b", 6))
	first := whole(made(t, api.Caps{}, 7, inA(l...)))
	r := rand.New(rand.NewSource(1))
	for range 50 {
		r.Shuffle(len(l), func(i, k int) { l[i], l[k] = l[k], l[i] })
		want(t, "another order", whole(made(t, api.Caps{}, 7, inA(l...))), first)
	}
	want(t, "A", told(made(t, api.Caps{}, 7, inA(l...)).Image(api.A)), strings.Join([]string{
		`"" 1 5 "" 0 5 1`, `"a" 1 5 "" 0 10 1`,
		`"a/d" 1 5 "" 0 11 1`, `"a/d/d" 1 5 "" 0 12 1`, `"a/d/d/d" 1 5 "" 0 13 1`, `"a/d/d/d/d" 1 5 "" 0 14 1`, `"a/d/d/d/d/d" 1 5 "" 0 15 1`,
		`"a/d/d/d/d/d/f" 2 6 "abc" 2 2 1`, `"a/l" 3 0 "x" 0 3 1`, `"a.b" 1 5 "" 0 6 1`}, "\n"))
}

// Roots that aren't given get numbers above all others, A's first, and the clock as their stamp.
func TestP9_1Roots(t *testing.T) {
	root := func(number int) []api.Thing {
		return []api.Thing{{Kind: api.Dir, Mode: 3, Number: number, Stamp: 2}}
	}
	for _, c := range []struct {
		things  [3][]api.Thing
		a, b, s string
	}{
		{[3][]api.Thing{}, `"" 1 7 "" 0 1 9`, `"" 1 7 "" 0 2 9`, `"" 1 7 "" 0 3 9`},
		{[3][]api.Thing{root(4), nil, nil}, `"" 1 3 "" 0 4 2`, `"" 1 7 "" 0 5 9`, `"" 1 7 "" 0 6 9`},
		{[3][]api.Thing{nil, root(4), nil}, `"" 1 7 "" 0 5 9`, `"" 1 3 "" 0 4 2`, `"" 1 7 "" 0 6 9`},
		{[3][]api.Thing{nil, nil, root(1)}, `"" 1 7 "" 0 2 9`, `"" 1 7 "" 0 3 9`, `"" 1 3 "" 0 1 2`},
		{[3][]api.Thing{root(8), root(6), root(7)}, `"" 1 3 "" 0 8 2`, `"" 1 3 "" 0 6 2`, `"" 1 3 "" 0 7 2`},
		{[3][]api.Thing{nil, root(api.MaxBegin), nil}, `"" 1 7 "" 0 1099511627777 9`, `"" 1 3 "" 0 1099511627776 2`, `"" 1 7 "" 0 1099511627778 9`},
	} {
		w := made(t, api.Caps{}, 9, c.things)
		want(t, "A", told(w.Image(api.A)), c.a)
		want(t, "B", told(w.Image(api.B)), c.b)
		want(t, "S", told(w.Image(api.S)), c.s)
	}
}

// Each single thing that can be, at its edges.
func TestP9_1Right(t *testing.T) {
	deepest, last := chain("d", 64, 1)
	staged, below := chain(".twine", 65, 100)
	for what, l := range map[string][]api.Thing{
		"64 names":               deepest,
		"65 names, staged":       staged,
		"66 names, staged":       append(staged, fileThing(below+"/f", "", 0, 9)),
		"a file at .twine":       {fileThing(".twine", "a", 0, 9)},
		"names of 255 bytes":     {dirThing(strings.Repeat("n", 255), 1)},
		"a directory of mode 0":  {{Path: "d", Kind: api.Dir, Mode: 0, Number: 1, Stamp: 1}},
		"a directory of mode 7":  {{Path: "d", Kind: api.Dir, Mode: 7, Number: 1, Stamp: 1}},
		"empty data":             {{Path: "d", Kind: api.Dir, Data: []byte{}, Number: 1, Stamp: 1}},
		"a file of mode 0":       {{Path: "f", Kind: api.File, Mode: 0, Number: 1, Stamp: 1}},
		"a file of mode 7":       {{Path: "f", Kind: api.File, Mode: 7, Number: 1, Stamp: 1}},
		"a byte 0 in a file":     {fileThing("f", "a\x00", 1, 1)},
		"nothing is sure":        {fileThing("f", "abc", 0, 1)},
		"all is sure":            {fileThing("f", "abc", 3, 1)},
		"a target of one":        {linkThing("l", "x", 1)},
		"a target of 4095":       {linkThing("l", strings.Repeat("x", 4095), 1)},
		"the greatest number":    {dirThing("d", api.MaxBegin)},
		"the clock as its stamp": {{Path: "d", Kind: api.Dir, Number: 1, Stamp: 5}},
		"a root of mode 0":       {{Kind: api.Dir, Number: 1, Stamp: 5}},
	} {
		for v := range 3 {
			var things [3][]api.Thing
			things[v] = l
			w, e := New(api.Caps{}, 5, things)
			if e != api.OK {
				t.Errorf("%s: %d", what, e)
				continue
			}
			want(t, what, whole(w), plainWhole(plainNew(api.Caps{}, 5, things)))
		}
	}
	w := made(t, api.Caps{}, 5, inA(deepest...))
	want(t, "the last one is a directory", w.Create(api.A, last+"/f"), api.OK)
	made(t, api.Caps{}, api.MaxBegin, inA(api.Thing{Path: "d", Kind: api.Dir, Number: 1, Stamp: api.MaxBegin}))
}

// Each single thing that can't be.
func TestP9_1Wrong(t *testing.T) {
	deepest, last := chain("d", 64, 1)
	beside, end := chain(".twinee", 64, 1)
	staged, below := chain(".twine", 66, 100)
	thing := func(change func(t *api.Thing), like api.Thing) []api.Thing {
		change(&like)
		return []api.Thing{like}
	}
	d, f, k := dirThing("x", 1), fileThing("x", "abc", 1, 1), linkThing("x", "t", 1)
	wrong := map[string][]api.Thing{
		"65 names":                  append(deepest, dirThing(last+"/d", 99)),
		"65 names, not staged":      append(beside, dirThing(end+"/d", 99)),
		"67 names, staged":          append(staged, dirThing(below+"/d", 99)),
		"twice":                     {dirThing("x", 1), dirThing("x", 2)},
		"twice, unlike":             {dirThing("x", 1), fileThing("x", "", 0, 2)},
		"two roots":                 {dirThing("", 1), dirThing("", 2)},
		"nothing above":             {dirThing("x/y", 1)},
		"nothing above what is":     {dirThing("x", 1), dirThing("x/y/z", 2)},
		"a file above":              {fileThing("x", "", 0, 1), dirThing("x/y", 2)},
		"a link above":              {linkThing("x", "d", 1), dirThing("x/y", 2), dirThing("d", 3)},
		"a number twice":            {dirThing("x", 1), dirThing("y", 1)},
		"a number of the root's":    {dirThing("", 1), dirThing("y", 1)},
		"a directory with data":     thing(func(t *api.Thing) { t.Data = []byte("a") }, d),
		"a directory that is sure":  thing(func(t *api.Thing) { t.Sure = 1 }, d),
		"a directory below sure":    thing(func(t *api.Thing) { t.Sure = -1 }, d),
		"more sure than there is":   thing(func(t *api.Thing) { t.Sure = 4 }, f),
		"less sure than none":       thing(func(t *api.Thing) { t.Sure = -1 }, f),
		"a link with a mode":        thing(func(t *api.Thing) { t.Mode = 7 }, k),
		"a link below all modes":    thing(func(t *api.Thing) { t.Mode = -1 }, k),
		"a link that is sure":       thing(func(t *api.Thing) { t.Sure = 1 }, k),
		"a link to nothing":         thing(func(t *api.Thing) { t.Data = nil }, k),
		"a link too far":            thing(func(t *api.Thing) { t.Data = make([]byte, 4096) }, k),
		"a long link":               thing(func(t *api.Thing) { t.Data = []byte(strings.Repeat("x", 4096)) }, k),
		"a link with a 0":           thing(func(t *api.Thing) { t.Data = []byte("a\x00b") }, k),
		"a file as the root":        thing(func(t *api.Thing) { t.Path = "" }, f),
		"a link as the root":        thing(func(t *api.Thing) { t.Path = "" }, k),
		"a root of mode 8":          thing(func(t *api.Thing) { t.Path, t.Mode = "", 8 }, d),
		"a root of stamp 6":         thing(func(t *api.Thing) { t.Path, t.Stamp = "", 6 }, d),
		"a root without a number":   thing(func(t *api.Thing) { t.Path, t.Number = "", 0 }, d),
		"a number below 0":          thing(func(t *api.Thing) { t.Number = -1 }, k),
		"a number above MaxBegin":   thing(func(t *api.Thing) { t.Number = api.MaxBegin + 1 }, k),
		"the least of all numbers":  thing(func(t *api.Thing) { t.Number = math.MinInt }, f),
		"the greatest of all":       thing(func(t *api.Thing) { t.Number = math.MaxInt }, f),
		"a stamp of 0":              thing(func(t *api.Thing) { t.Stamp = 0 }, f),
		"a stamp below 0":           thing(func(t *api.Thing) { t.Stamp = -1 }, k),
		"a stamp above the clock":   thing(func(t *api.Thing) { t.Stamp = 6 }, f),
		"a stamp far above it":      thing(func(t *api.Thing) { t.Stamp = math.MaxInt }, d),
		"no number":                 thing(func(t *api.Thing) { t.Number = 0 }, f),
		"a thing of no kind at all": {{Number: 1, Stamp: 1}},
	}
	for _, p := range []string{"/", "/x", "x/", "a//b", ".", "..", "x/.", "a\x00", strings.Repeat("n", 256)} {
		wrong[fmt.Sprintf("path %.9q", p)] = []api.Thing{dirThing("x", 1), dirThing("a", 2), dirThing(p, 3)}
	}
	for _, kind := range []int{0, 4, -1, math.MaxInt, math.MinInt} {
		wrong[fmt.Sprint("kind ", kind)] = thing(func(t *api.Thing) { t.Kind, t.Mode = kind, 0 }, d)
	}
	for _, mode := range []int{-1, 8, math.MaxInt, math.MinInt} {
		wrong[fmt.Sprint("directory's mode ", mode)] = thing(func(t *api.Thing) { t.Mode = mode }, d)
		wrong[fmt.Sprint("file's mode ", mode)] = thing(func(t *api.Thing) { t.Mode = mode }, f)
	}
	for what, l := range wrong {
		for v := range 3 {
			var things [3][]api.Thing
			things[v] = l
			refused(t, what, api.Caps{}, 5, things)
		}
	}
}

// A number that stands in two volumes.
func TestP9_1NumberTwice(t *testing.T) {
	for v := range 3 {
		for u := range v {
			for _, p := range []string{"x", ""} {
				var things [3][]api.Thing
				things[v], things[u] = []api.Thing{dirThing("x", 4)}, []api.Thing{dirThing(p, 4)}
				refused(t, fmt.Sprint("in ", u, " and ", v), api.Caps{}, 5, things)
				things[v] = []api.Thing{dirThing("x", 3)}
				made(t, api.Caps{}, 5, things)
			}
		}
	}
}

// At the beginning all names, modes and links are sure, and of each file its first bytes.
func TestP9_1Sure(t *testing.T) {
	caps, clock, things := beginning()
	w := made(t, caps, clock, things)
	before := strings.Replace(told(w.Image(api.A)), `"abcde" 3 12 4`, `"abc" 3 12 6`, 1)
	b, s := told(w.Image(api.B)), told(w.Image(api.S))
	w.Fall([3]int{}, [3][]int{})
	want(t, "A", told(w.Image(api.A)), before)
	want(t, "B", told(w.Image(api.B)), b)
	want(t, "S", told(w.Image(api.S)), s)
}

// At the beginning nothing is rigged, and nobody has a claim.
func TestP9_1NothingRigged(t *testing.T) {
	w := empties(t)
	for v := range 3 {
		ok(t, w.Mkdir(v, "d"), w.SyncVolume(v))
		if _, e := w.Stat(v, "d"); e != api.OK {
			t.Errorf("Stat: %d", e)
		}
	}
	want(t, "Owns", w.Owns(0) || w.Owns(1), false)
	want(t, "Claim", w.Claim(), 1)
}

// As many things as there may be at all, and one more; then, as many names.
func TestP9_1MaxNames(t *testing.T) {
	l := make([]api.Thing, 0, api.MaxNames+2)
	l = append(l, dirThing("", 1), dirThing("d", 2))
	for i := len(l); i <= api.MaxNames; i++ {
		l = append(l, linkThing(fmt.Sprintf("d/%x", i), "t", i+1))
	}
	w := made(t, api.Caps{}, 1, [3][]api.Thing{nil, nil, l})
	want(t, "one name more", w.Mkdir(api.S, "e"), api.ErrWorldFull)
	ok(t, w.Remove(api.S, "d/ff"))
	want(t, "one name again", w.Mkdir(api.S, "e"), api.OK)
	want(t, "one name more", w.Create(api.S, "f"), api.ErrWorldFull)
	refused(t, "a thing more", api.Caps{}, 1, [3][]api.Thing{nil, nil, append(l, dirThing("x", len(l)+1))})
}
