package apply

import (
	"fmt"
	"strings"
	"testing"

	"twine/api"
	"twine/world"
)

// kinds: what comes over what is there, with the one changing call of its put and how many reading calls it makes.
type kinds struct {
	what         string
	comes, stood []api.Thing
	looks, stats int
	behind       string // what stands in the staging place behind the put
}

func putKinds() []kinds {
	file, link := []api.Thing{fileOf("", 6, "abc")}, []api.Thing{linkOf("", "to")}
	empty := []api.Thing{dirOf("", 5)}
	full := []api.Thing{dirOf("", 5), fileOf("f", 4, "x"), dirOf("g", 3), fileOf("g/h", 2, ""), linkOf("i", "to")}
	return []kinds{
		{"a file over nothing: Rename", file, nil, 1, 1, ""},
		{"a link over nothing: Rename", link, nil, 1, 0, ""},
		{"a directory over nothing: Rename", full, nil, 1, 2, ""},
		{"a file over a file: Exchange", file, []api.Thing{fileOf("", 1, "y")}, 2, 1, "1 2.1.1"},
		{"a link over an empty directory: Exchange", link, empty, 2, 0, "1 1.5.0"},
		{"a directory over a link: Exchange", full, link, 2, 2, "1 3.0.2"},
		{"an empty directory over a full one: Exchange", empty, full, 9, 0, "1 1.5.0, 1/f 2.4.1, 1/g 1.3.0, 1/g/h 2.2.0, 1/i 3.0.2"},
		{"a file goes: Remove", nil, file, 2, 0, ""},
		{"a link goes: Remove", nil, link, 2, 0, ""},
		{"an empty directory goes: Remove", nil, empty, 2, 0, ""},
		{"a full directory goes: Rename", nil, full, 9, 0, "1 1.5.0, 1/f 2.4.1, 1/g 1.3.0, 1/g/h 2.2.0, 1/i 3.0.2"},
	}
}

// begunPut: an item whose next step is its put.
func begunPut(t testing.TB, c kinds) *pair {
	t.Helper()
	p := begun(t, between(t, "x", c.comes, c.stood), carry(1, "x", api.A))
	for p.items[0].Phase() != api.DidPut {
		p.steps(t, c.what, 1)
	}
	return p
}

// The calls of a put: the look's, a Stat for each staged file, one that changes.
func TestP17_3PutCalls(t *testing.T) {
	for _, c := range putKinds() {
		p := begunPut(t, c)
		p.each(func(w *world.World) {
			counted(w, api.A)
			counted(w, api.B)
		})
		p.steps(t, c.what, 1)
		p.alike(t, c.what)
		want(t, c.what+": calls", made(p.w, api.B), [2]int{1, c.looks + c.stats})
		want(t, c.what+": calls of the source", made(p.w, api.A), [2]int{})
		want(t, c.what+": the staging place", staging(p.w, api.B), c.behind)
		wantText(t, c.what+": the place", values(scanned(t, p.w, api.B, "x")), values(treeOf(t, c.comes...)))
	}
}

// Each of its calls fails: the item has failed, and nothing has changed. What reads comes ahead of what changes.
func TestP17_3PutFails(t *testing.T) {
	for _, c := range putKinds() {
		for call := range c.looks + c.stats + 1 {
			what := fmt.Sprintf("%s, call %d fails", c.what, call)
			p := begunPut(t, c)
			reading := call < c.looks+c.stats
			p.each(func(w *world.World) {
				w.Rig(api.B, 0, 1, 0, false) // met by the last of all calls alone
				if reading {
					w.Rig(api.B, call, 1, 0, true)
				}
			})
			before := images(p.w)
			did, e := p.step(t, what, 0)
			p.alike(t, what)
			want(t, what+": did", didName(did), "failed")
			want(t, what+": error", e, api.ErrWorldFault)
			want(t, what+": How", p.items[0].Done().How, api.HowFailed)
			want(t, what+": files", len(p.items[0].Done().Put), 0)
			want(t, what+": the changing call is rigged still", rigged(p.w, api.B, false)[0] == 'x', reading)
			wantText(t, what+": the world", images(p.w), before)
			p.each(func(w *world.World) { w.Rig(api.B, 0, 0, 0, false) })
			hasEnded(t, what, p.items[0], p.w)
		}
	}
}

// others: what somebody does in a staging place, ahead of a put.
type others struct {
	what string
	kind int // of putKinds
	do   func(w *world.World) []api.Errno
	e    api.Errno
}

// What is refused, not rigged: by whoever was in the staging place.
func TestP17_3PutRefused(t *testing.T) {
	gone := func(w *world.World) []api.Errno { return []api.Errno{w.Remove(api.B, ".twine/1")} }
	moved := func(w *world.World) []api.Errno { return []api.Errno{w.Rename(api.B, ".twine/1", ".twine/2")} }
	away := func(w *world.World) []api.Errno { return []api.Errno{w.Rename(api.B, ".twine", "t")} }
	inTheWay := func(w *world.World) []api.Errno { return []api.Errno{w.Create(api.B, ".twine/1")} }
	dirInTheWay := func(w *world.World) []api.Errno { return []api.Errno{w.Mkdir(api.B, ".twine/1")} }
	placed := func(w *world.World) []api.Errno { return []api.Errno{w.Remove(api.B, ".twine/1/g/h")} }
	for _, c := range []others{
		{"Stat: the file is gone", 0, gone, api.ErrWorldNone},
		{"Stat: no staging place", 0, away, api.ErrWorldWay},
		{"Stat: what is above the file is gone", 2, moved, api.ErrWorldWay},
		{"Stat: the last file is gone", 2, placed, api.ErrWorldNone},
		{"Stat, ahead of Exchange", 3, moved, api.ErrWorldNone},
		{"Stat, ahead of Exchange: the last file is gone", 5, placed, api.ErrWorldNone},
		{"Rename: gone", 1, gone, api.ErrWorldNone},
		{"Rename: no staging place", 1, away, api.ErrWorldWay},
		{"Exchange: gone", 4, gone, api.ErrWorldNone},
		{"Exchange: no staging place", 4, away, api.ErrWorldWay},
		{"Exchange: gone, over a full directory", 6, gone, api.ErrWorldNone},
		{"Rename into the staging place: there is none", 10, away, api.ErrWorldWay},
		{"Rename into the staging place: a file is in the way", 10, inTheWay, api.ErrWorldKind},
		{"Rename into the staging place: a directory is in the way", 10, dirInTheWay, api.ErrWorldKind},
	} {
		p := begunPut(t, putKinds()[c.kind])
		p.each(func(w *world.World) { wantOK(t, c.what, c.do(w)...) })
		before := images(p.w)
		did, e := p.step(t, c.what, 0)
		p.alike(t, c.what)
		want(t, c.what+": did", didName(did), "failed")
		want(t, c.what+": error", e, c.e)
		wantText(t, c.what+": the world", images(p.w), before)
		hasEnded(t, c.what, p.items[0], p.w)
	}
}

// A staging place isn't needed where nothing is brought and nothing moved there.
func TestP17_3NoStagingPlaceNeeded(t *testing.T) {
	for _, i := range []int{7, 8, 9} {
		c := putKinds()[i]
		w := between(t, "x", c.comes, c.stood)
		wantOK(t, c.what, w.Remove(api.B, ".twine"))
		dids, e := begun(t, w, carry(1, "x", api.A)).toEnd(t, c.what)
		want(t, c.what, dids, "look put")
		want(t, c.what, e, api.OK)
	}
}

// What others put in the place of the staged things is put, if no call is refused: a look isn't made of it. (P17.7 speaks of this no more.)
func TestP17_3OthersAtTheStagingPath(t *testing.T) {
	for _, c := range []others{
		{"another file", 0, func(w *world.World) []api.Errno {
			return []api.Errno{w.Remove(api.B, ".twine/1"), w.Create(api.B, ".twine/1")}
		}, api.OK},
		{"a directory for the file", 0, func(w *world.World) []api.Errno {
			return []api.Errno{w.Remove(api.B, ".twine/1"), w.Mkdir(api.B, ".twine/1")}
		}, api.OK},
		{"a thing more", 2, func(w *world.World) []api.Errno {
			return []api.Errno{w.Mkdir(api.B, ".twine/1/new"), w.Chmod(api.B, ".twine/1/f", 0)}
		}, api.OK},
	} {
		p := begunPut(t, putKinds()[c.kind])
		p.each(func(w *world.World) {
			w.Tick()
			wantOK(t, c.what, c.do(w)...)
		})
		p.steps(t, c.what, 1)
		p.alike(t, c.what)
		want(t, c.what+": How", p.items[0].Done().How, api.HowPut)
		for _, x := range p.items[0].Done().Put {
			s, e := p.w.Stat(api.B, x.Path)
			wantOK(t, c.what, e)
			want(t, c.what+": "+x.Path, x, api.Placed{Path: x.Path, Number: s.Number, Stamp: s.Stamp})
		}
	}
}

// A place so far down that what was staged can't hang there.
func TestP17_3TooDeep(t *testing.T) {
	p := strings.TrimSuffix(strings.Repeat("n/", 64), "/")
	src := treeOf(t, dirOf("", 7), dirOf("a", 7), dirOf("a/b", 7), dirOf("a/b/c", 7))
	for _, stood := range [][]api.Thing{nil, {linkOf("", "to")}} {
		w := between(t, p, nil, stood)
		if stood == nil {
			w = between(t, p[:len(p)-2], nil, []api.Thing{dirOf("", 7)})
		}
		before := outside(w, api.B)
		x := paired(w)
		x.begin(carry(1, p, api.A), src, treeOf(t, stood...))
		dids, e := x.toEnd(t, "too deep")
		want(t, "steps", dids, "look stage stage stage stage failed")
		want(t, "error", e, api.ErrWorldDeep)
		wantText(t, "B", outside(w, api.B), before)
	}
}

// The stage is overtaken: the item is, and tells no error; it fails: the item has failed with its error. What was made stays.
func TestP17_3StageEnds(t *testing.T) {
	comes := []api.Thing{dirOf("", 5), fileOf("f", 6, text(600)), linkOf("l", "to")}
	for _, c := range []struct {
		what  string
		ahead int // steps ahead of it
		do    func(w *world.World)
		dids  string
		e     api.Errno
		there string
	}{
		{"a file is gone", 1, func(w *world.World) { edits{removed("x/f")}.done(t, w, api.A) }, "stage overtaken", api.OK, "1 1.5.0"},
		{"a file is gone, later", 3, func(w *world.World) { edits{removed("x/f")}.done(t, w, api.A) }, "overtaken", api.OK, "1 1.5.0, 1/f 2.7.512"},
		{"other bytes", 3, func(w *world.World) { edits{written("x/f", spoilt(text(600), 599))}.done(t, w, api.A) }, "overtaken", api.OK, "1 1.5.0, 1/f 2.7.600"},
		{"another target", 4, func(w *world.World) { edits{removed("x/l"), linked("x/l", "ot")}.done(t, w, api.A) }, "overtaken", api.OK, "1 1.5.0, 1/f 2.6.600"},
		{"a fault of the source", 2, func(w *world.World) { w.Rig(api.A, 0, 1, 0, true) }, "failed", api.ErrWorldFault, "1 1.5.0"},
		{"a fault of Read", 2, func(w *world.World) { w.Rig(api.A, 1, 1, 0, true) }, "failed", api.ErrWorldFault, "1 1.5.0, 1/f 2.7.0"},
		{"a fault of Mkdir", 1, func(w *world.World) { w.Rig(api.B, 0, 1, 0, false) }, "failed", api.ErrWorldFault, ""},
		{"a fault of Append", 3, func(w *world.World) { w.Rig(api.B, 0, 1, 7, false) }, "failed", api.ErrWorldFault, "1 1.5.0, 1/f 2.7.519"},
		{"no staging place", 1, func(w *world.World) { wantOK(t, "Remove", w.Remove(api.B, ".twine")) }, "failed", api.ErrWorldWay, ""},
		{"something stands there", 1, func(w *world.World) { wantOK(t, "Create", w.Create(api.B, ".twine/1")) }, "failed", api.ErrWorldTwice, "1 2.7.0"},
		{"the staged file is gone", 3, func(w *world.World) { wantOK(t, "Remove", w.Remove(api.B, ".twine/1/f")) }, "failed", api.ErrWorldNone, "1 1.5.0"},
	} {
		for _, stood := range sorts() {
			what := c.what + ", over " + stood.what
			w := between(t, "x", comes, stood.things)
			before := outside(w, api.B)
			p := begun(t, w, carry(1, "x", api.A))
			p.steps(t, what, c.ahead)
			p.each(c.do)
			if c.what == "no staging place" {
				before = outside(w, api.B)
			}
			dids, e := p.toEnd(t, what)
			want(t, what+": steps", dids, c.dids)
			want(t, what+": error", e, c.e)
			how := api.HowFailed
			if c.e == api.OK {
				how = api.HowOvertaken
			}
			want(t, what+": How", p.items[0].Done().How, how)
			want(t, what+": what is staged", staging(w, api.B), c.there)
			wantText(t, what+": B", outside(w, api.B), before)
		}
	}
}

// No room for what is to come.
func TestP17_3Full(t *testing.T) {
	comes := []api.Thing{dirOf("", 5), fileOf("f", 6, text(600))}
	for _, c := range []struct {
		what string
		caps api.Caps
		dids string
	}{
		{"no name", api.Caps{Names: [3]int{0, 1, 0}}, "look failed"},
		{"one name", api.Caps{Names: [3]int{0, 2, 0}}, "look stage failed"},
		{"no bytes", api.Caps{Bytes: [3]int{0, 511, 0}}, "look stage failed"},
		{"few bytes", api.Caps{Bytes: [3]int{0, 599, 0}}, "look stage stage failed"},
		{"just enough", api.Caps{Names: [3]int{0, 3, 0}, Bytes: [3]int{0, 600, 0}}, "look stage stage stage put"},
	} {
		p := begun(t, worldOf(t, c.caps, laid("x", comes, 1), nil), carry(1, "x", api.A))
		dids, e := p.toEnd(t, c.what)
		want(t, c.what, dids, c.dids)
		want(t, c.what+": full", e == api.ErrWorldFull, c.what != "just enough")
	}
}

// What is looked at in the put is what stands there then: an edit behind the first look, at any step, is met.
func TestP17_3EditBehindEachStep(t *testing.T) {
	for _, comes := range sorts() {
		for _, stood := range sorts() {
			if comes.things == nil && stood.things == nil {
				continue
			}
			w := between(t, "x", comes.things, stood.things)
			it := carry(1, "x", api.A)
			n := 1 + stepsOf(w, it, treeOf(t, comes.things...))
			for ahead := 1; ahead <= n; ahead++ {
				what := fmt.Sprintf("%s over %s, behind %d steps", comes.what, stood.what, ahead)
				p := begun(t, w.Copy(), it)
				p.steps(t, what, ahead)
				p.each(func(w *world.World) {
					if stood.things == nil {
						edits{mkdir("x", 7)}.done(t, w, api.B)
					} else {
						edits{moves("x", "y"), newFile("x", "a user's", 1)}.done(t, w, api.B)
					}
				})
				before := outside(p.w, api.B)
				dids, e := p.toEnd(t, what)
				want(t, what+": steps", dids, times("stage", n-ahead)+"overtaken")
				want(t, what+": error", e, api.OK)
				wantText(t, what+": B", outside(p.w, api.B), before)
			}
		}
	}
}
