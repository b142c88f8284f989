package store

import (
	"fmt"
	"math"
	"reflect"
	"testing"

	"twine/api"
	"twine/codec"
	"twine/tree"
	"twine/world"
)

// loaded: a loader that has done so many steps, whatever they answered.
func loaded(w *world.World, most, steps int) *Loader {
	l := Load(w, most)
	for range steps {
		l.Step()
	}
	return l
}

// steps looks at what a Step answers: without an error.
func steps(t testing.TB, what string, l *Loader, ended bool) {
	t.Helper()
	got, err := l.Step()
	if got != ended || err != nil {
		t.Errorf("%s: %v, %v, want %v", what, got, err, ended)
	}
}

// fails looks at what a Step answers: a fault.
func fails(t testing.TB, what string, l *Loader, f api.Fault) {
	t.Helper()
	ended, err := l.Step()
	got, isFault := err.(*api.Fault)
	if ended || !isFault || got == nil || *got != f {
		t.Errorf("%s: %v, %#v, want %#v", what, ended, err, f)
	}
}

// tells looks at what Tree answers.
func tells(t testing.TB, what string, l *Loader, n api.Node, version int) {
	t.Helper()
	x, v := l.Tree()
	if x == nil || v != version || !reflect.DeepEqual(x.Node(), n) {
		t.Errorf("%s: %v, version %d, want %+v, %d", what, x, v, n, version)
	}
}

func tellsNothing(t testing.TB, what string, l *Loader) {
	t.Helper()
	if x, v := l.Tree(); x != nil || v != 0 {
		t.Errorf("%s: %v, version %d are told", what, x, v)
	}
}

// nodeOf: the raw data that Decode tells of bytes.
func nodeOf(t testing.TB, b string) api.Node {
	t.Helper()
	x, _, err := codec.Decode([]byte(b), api.MaxNodes)
	if err != nil {
		t.Fatal(err)
	}
	return x.Node()
}

func TestP10_1First(t *testing.T) {
	x := First()
	if !reflect.DeepEqual(x.Node(), api.Node{Value: api.Value{Kind: api.Dir, Mode: 8}}) {
		t.Errorf("First: %+v", x.Node())
	}
	want(t, "Count", x.Count(), 1)
	want(t, "Marks", x.Marks(), [2]api.Mark{})
	y, e := x.Set("", api.Value{Kind: api.Dir, Mode: 3}, [2]api.Mark{})
	ok(t, e)
	want(t, "another tree", y.Value().Mode, 3)
	want(t, "First again", First().Value(), api.Value{Kind: api.Dir, Mode: 8})
	want(t, "the same", tree.Same(First(), x, false), true)
}

// Load, and Tree, call nothing: not even a call that would fail is made.
func TestP10_2LoadCallsNothing(t *testing.T) {
	for _, sure := range []bool{true, false} {
		w := worldOf(t, api.Caps{}, filed(archiveOf(t, some(), 3)), filed("x"), sure)
		w.Rig(api.S, 0, 3, 9, false)
		w.Rig(api.S, 0, 3, 9, true)
		before := told(w)
		for _, most := range []int{math.MinInt, -1, 0, 1, 9, api.MaxNodes, math.MaxInt} {
			tellsNothing(t, "ahead of the first step", Load(w, most))
			want(t, "Load", told(w), before)
		}
	}
}

// What each step calls, at everything that may stand at the two places.
func TestP10_2Calls(t *testing.T) {
	for _, at := range spots(t) {
		for _, atFresh := range freshSpots() {
			what := at.what + ", new: " + atFresh.what
			w := worldOf(t, api.Caps{}, at, atFresh, false)
			counted(w)
			l := Load(w, api.MaxNodes)
			steps(t, what, l, false)
			want(t, what+": the first step", made(w), [2]int{1, 0})
			l.Step()
			wanted := [2]int{1, 2}
			if atFresh != nothing {
				wanted[0]++
			}
			switch {
			case atFresh == fullDir:
				wanted[1] = 1
			case at.kind == api.File:
				wanted[0]++
				wanted[1]++
			}
			want(t, what+": both steps", made(w), wanted)
		}
	}
}

// The first step makes the names sure, and no bytes, and changes nothing else.
func TestP10_2FirstStep(t *testing.T) {
	w := worldOf(t, api.Caps{}, filed(archiveOf(t, some(), 3)), filed("abc"), false)
	ok(t, w.Create(api.A, "f"))
	before := image(w, api.S)
	plain := w.Copy()
	ok(t, plain.SyncVolume(api.S))
	l := Load(w, 99)
	steps(t, "the first", l, false)
	tellsNothing(t, "the first", l)
	want(t, "S", image(w, api.S), before)
	want(t, "as SyncVolume alone", told(w), told(plain))
}

// The second step takes `archive.new` away, whatever it is, but a full directory; what is at `archive` stays, its bytes being sure now.
func TestP10_2SecondStep(t *testing.T) {
	for _, at := range spots(t) {
		for _, atFresh := range freshSpots() {
			what := at.what + ", new: " + atFresh.what
			w := worldOf(t, api.Caps{}, at, atFresh, false)
			ok(t, w.Create(api.S, "archive.old"), w.Append(api.S, "archive.old", []byte("x")))
			plain := w.Copy()
			loaded(w, api.MaxNodes, 2)
			ok(t, plain.SyncVolume(api.S))
			if atFresh != nothing && atFresh != fullDir {
				ok(t, plain.Remove(api.S, "archive.new"))
			}
			if at.kind == api.File && atFresh != fullDir {
				ok(t, plain.Sync(api.S, "archive"))
			}
			want(t, what, told(w), told(plain))
		}
	}
}

// Everything at the two places, with the calls of each sort rigged from each one on: as the plain loader, step by step.
func TestP10_3AllRigs(t *testing.T) {
	for _, at := range spots(t) {
		for _, atFresh := range freshSpots() {
			for changing := -1; changing < 4; changing++ {
				for reading := -1; reading < 4; reading++ {
					w := worldOf(t, api.Caps{}, at, atFresh, reading%2 == 0)
					if changing >= 0 {
						w.Rig(api.S, changing, 1+reading&1, 2, false)
					}
					if reading >= 0 {
						w.Rig(api.S, reading, 1+changing&1, 2, true)
					}
					what := fmt.Sprintf("%s, new: %s, rigged at %d, %d", at.what, atFresh.what, changing, reading)
					p := paired(w)
					p.load(9)
					for range 4 {
						if !p.step(t, what, 0) || !p.near(t, what) {
							return
						}
					}
					if !p.alike(t, what) {
						return
					}
				}
			}
		}
	}
}

// Each single call rigged to fail: what the fault tells, and that no later call is made, by this Step or a further one, whether it would go well or not.
func TestP10_3EachCall(t *testing.T) {
	good, newer := filed(archiveOf(t, some(), 3)), filed("x")
	for _, c := range []struct {
		what        string
		at, atFresh spot
		reading     bool
		after       int // so many calls of that sort go well
		steps       int
		path        string
		calls       [2]int // changing and reading ones that are made, the one that fails too
	}{
		{"SyncVolume", good, newer, false, 0, 1, "", [2]int{1, 0}},
		{"Stat of archive.new", good, newer, true, 0, 2, "archive.new", [2]int{1, 1}},
		{"Stat of no archive.new", good, nothing, true, 0, 2, "archive.new", [2]int{1, 1}},
		{"Remove", good, newer, false, 1, 2, "archive.new", [2]int{2, 1}},
		{"Stat of archive", good, newer, true, 1, 2, "archive", [2]int{2, 2}},
		{"Stat of archive, nothing new", good, nothing, true, 1, 2, "archive", [2]int{1, 2}},
		{"Stat of no archive", nothing, newer, true, 1, 2, "archive", [2]int{2, 2}},
		{"Sync", good, newer, false, 2, 2, "archive", [2]int{3, 2}},
		{"Sync, nothing new", good, nothing, false, 1, 2, "archive", [2]int{2, 2}},
		{"Read", good, newer, true, 2, 2, "archive", [2]int{3, 3}},
		{"Read, nothing new", good, nothing, true, 2, 2, "archive", [2]int{2, 3}},
	} {
		for _, failing := range []int{1, far} {
			w := worldOf(t, api.Caps{}, c.at, c.atFresh, false)
			counted(w)
			w.Rig(api.S, c.after, failing, 0, c.reading)
			l := Load(w, 99)
			for range c.steps - 1 {
				steps(t, c.what, l, false)
			}
			f := api.Fault{Path: c.path, Err: api.ErrWorldFault}
			fails(t, c.what, l, f)
			before := told(w)
			for range 3 {
				tellsNothing(t, c.what, l)
				fails(t, c.what+", again", l, f)
			}
			want(t, c.what+": a further Step does nothing", told(w), before)
			rig := [2]int{far + 1, far + 1}
			rig[sortOf(c.reading)] = c.after + failing
			calls := [2]int{rig[0] - left(w, false), rig[1] - left(w, true)}
			wanted := c.calls
			if failing == 1 { // a later one of that sort wouldn't be told from none
				calls[sortOf(c.reading)], wanted[sortOf(c.reading)] = 0, 0
			}
			want(t, c.what+": calls", calls, wanted)
			_, still := bytesAt(w, "archive.new")
			want(t, c.what+": archive.new", still, c.atFresh == newer && (c.calls[0] < 2 || c.what == "Remove"))
		}
	}
}

func sortOf(reading bool) int {
	if reading {
		return 1
	}
	return 0
}

// What isn't a file at `archive`, and what can't be removed at `archive.new`, which comes first.
func TestP10_3Kinds(t *testing.T) {
	noFile := api.Fault{Path: "archive", Err: api.ErrStoreKind}
	rest := api.Fault{Path: "archive.new", Err: api.ErrWorldRest}
	for _, at := range []spot{linked, emptyDir, fullDir} {
		for _, atFresh := range freshSpots() {
			w := worldOf(t, api.Caps{}, at, atFresh, true)
			l := Load(w, 99)
			f := noFile
			if atFresh == fullDir {
				f = rest
			}
			what := at.what + ", new: " + atFresh.what
			steps(t, what, l, false)
			fails(t, what, l, f)
			before := told(w)
			fails(t, what, l, f)
			tellsNothing(t, what, l)
			want(t, what, told(w), before)
		}
	}
	for _, at := range spots(t) {
		w := worldOf(t, api.Caps{}, at, fullDir, true)
		fails(t, at.what, loaded(w, 99, 1), rest)
	}
}

// A link at `archive` isn't gone through, though an archive stands where it points.
func TestP10_3Link(t *testing.T) {
	w := worldOf(t, api.Caps{}, linked, nothing, true)
	ok(t, w.Create(api.S, "b"), w.Append(api.S, "b", []byte(archiveOf(t, some(), 3))), w.Remove(api.S, "archive"), w.Link(api.S, "archive", "b"))
	fails(t, "a link", loaded(w, 99, 1), api.Fault{Path: "archive", Err: api.ErrStoreKind})
}

// Bytes that Decode refuses: its own fault, with its place and its path.
func TestP10_3Decode(t *testing.T) {
	good := archiveOf(t, some(), 3)
	root := archiveOf(t, dir("", 7), 3)
	below := dir("", 7, dir("d", 7))
	deep := archiveOf(t, below, 3)
	for _, c := range []struct {
		what, data string
		f          api.Fault
	}{
		{"nothing", "", api.Fault{At: 0, Err: api.ErrCodecMark}},
		{"three bytes", "abc", api.Fault{At: 0, Err: api.ErrCodecMark}},
		{"the mark alone", "twne", api.Fault{At: 4, Err: api.ErrCodecVersion}},
		{"version 4", "twne\x04and more", api.Fault{At: 4, Err: api.ErrCodecVersion}},
		{"no sum", "twne\x01\x00\x00\x00", api.Fault{At: 5, Err: api.ErrCodecSum}},
		{"a wrong sum", good[:len(good)-1] + "\x00", api.Fault{At: len(good) - 4, Err: api.ErrCodecSum}},
		{"a wrong hash", resealed(root, 9), api.Fault{At: 9, Err: api.ErrCodecHash}},
		{"a wrong hash below", resealed(deep, len(deep)-5), api.Fault{At: len(deep) - 36, Path: "d", Err: api.ErrCodecHash}},
		{"no root", resealed(root, 6), api.Fault{At: 6, Err: api.ErrCodecForm}},
	} {
		if c.what == "a wrong sum" && good[len(good)-1] == 0 {
			t.Fatal("no wrong sum")
		}
		_, _, err := codec.Decode([]byte(c.data), 99)
		if f, isFault := err.(*api.Fault); !isFault || *f != c.f {
			t.Fatalf("%s: Decode answers %v", c.what, err)
		}
		w := worldOf(t, api.Caps{}, filed(c.data), filed("x"), false)
		l := Load(w, 99)
		steps(t, c.what, l, false)
		fails(t, c.what, l, c.f)
		tellsNothing(t, c.what, l)
		ok(t, w.Remove(api.S, "archive")) // what it told stays
		before := told(w)
		fails(t, c.what+", again", l, c.f)
		tellsNothing(t, c.what+", again", l)
		want(t, c.what+": a further Step does nothing", told(w), before)
	}
}

// Behind the end each Step answers the same and calls nothing, whatever others do; Tree too.
func TestP10_3BehindTheEnd(t *testing.T) {
	for _, at := range spots(t) {
		for _, atFresh := range freshSpots() {
			what := at.what + ", new: " + atFresh.what
			w := worldOf(t, api.Caps{}, at, atFresh, true)
			l := Load(w, 9)
			m := loaderMachine{l}
			m.step()
			first := m.step()
			w.Rig(api.S, 0, 5, 0, false)
			w.Rig(api.S, 0, 5, 0, true)
			before := told(w)
			for range 3 {
				want(t, what, m.step(), first)
			}
			want(t, what+": the world", told(w), before)
			w.Fall([3]int{}, [3][]int{})
			w.Remove(api.S, "archive")
			w.Create(api.S, "archive.new")
			want(t, what+": behind a fall", m.step(), first)
		}
	}
}

// A loader that ended at its first step makes no second one.
func TestP10_3EndedAtOnce(t *testing.T) {
	w := worldOf(t, api.Caps{}, filed(archiveOf(t, some(), 3)), filed("x"), false)
	w.Rig(api.S, 0, 1, 0, false)
	l := Load(w, 99)
	for range 5 {
		fails(t, "SyncVolume", l, api.Fault{Err: api.ErrWorldFault})
		tellsNothing(t, "SyncVolume", l)
	}
	if _, still := bytesAt(w, "archive.new"); !still {
		t.Error("a further Step does something")
	}
	l = Load(w, 99)
	steps(t, "another one", l, false)
	steps(t, "another one", l, true)
}

// Tree: ahead of the end, behind it, of each version, and where nothing stands.
func TestP10_4Tree(t *testing.T) {
	for version := 1; version <= 3; version++ {
		for what, n := range map[string]api.Node{"some": some(), "the root": dir("", 7), "many": wide(200), "unknown": dir("", 8)} {
			b := archiveOf(t, n, version)
			for _, atFresh := range freshSpots() {
				if atFresh == fullDir {
					continue
				}
				what := fmt.Sprint(what, ", version ", version, ", new: ", atFresh.what)
				l := Load(worldOf(t, api.Caps{}, filed(b), atFresh, false), api.MaxNodes)
				tellsNothing(t, what, l)
				steps(t, what, l, false)
				tellsNothing(t, what, l)
				for range 3 {
					steps(t, what, l, true)
					tells(t, what, l, nodeOf(t, b), version)
				}
			}
		}
	}
	if reflect.DeepEqual(nodeOf(t, archiveOf(t, some(), 1)), nodeOf(t, archiveOf(t, some(), 3))) {
		t.Error("all versions tell the same")
	}
	for _, atFresh := range freshSpots() {
		if atFresh == fullDir {
			continue
		}
		l := Load(worldOf(t, api.Caps{}, nothing, atFresh, true), 0)
		tellsNothing(t, atFresh.what, l)
		steps(t, atFresh.what, l, false)
		tellsNothing(t, atFresh.what, l)
		for range 3 {
			steps(t, atFresh.what, l, true)
			tells(t, atFresh.what, l, dir("", 8), 0)
		}
	}
}

// Trees of just most nodes, and of one more.
func TestP10_4Most(t *testing.T) {
	for _, nodes := range []int{1, 2, 3, 8, 129, 300} {
		for version := 1; version <= 3; version++ {
			b := archiveOf(t, wide(nodes-1), version)
			for _, most := range []int{math.MinInt, -1, 0, 1, 2, 3, 7, 8, 9, 128, 129, 130, 299, 300, 301, api.MaxNodes, api.MaxNodes + 1, math.MaxInt} {
				what := fmt.Sprint(nodes, " nodes, most ", most)
				l := loaded(worldOf(t, api.Caps{}, filed(b), nothing, true), most, 1)
				if nodes > max(most, 1) {
					fails(t, what, l, api.Fault{At: 5, Err: api.ErrCodecBounds})
					tellsNothing(t, what, l)
					continue
				}
				steps(t, what, l, true)
				tells(t, what, l, nodeOf(t, b), version)
			}
		}
	}
}

// What others do between the two steps is what the second step finds.
func TestP10_2Between(t *testing.T) {
	for _, at := range spots(t) {
		for _, atFresh := range freshSpots() {
			for _, full := range []bool{true, false} {
				p := paired(empties(t))
				p.load(9)
				what := at.what + ", new: " + atFresh.what
				p.step(t, what, 0)
				for _, w := range []*world.World{p.w, p.plain} {
					at.put(t, w, "archive", full)
					atFresh.put(t, w, "archive.new", full)
				}
				for range 3 {
					p.step(t, what, 0)
					p.alike(t, what)
				}
			}
		}
	}
}
