package apply

import (
	"fmt"
	"strings"
	"testing"

	"twine/api"
	"twine/world"
)

// edits: what users do to a volume; all of it must be taken.
type edits []api.Edit

func (l edits) done(t testing.TB, w *world.World, v int) {
	t.Helper()
	for _, e := range l {
		wantOK(t, fmt.Sprintf("the edit %d of %s", e.Kind, e.Path), w.Edit(v, e))
	}
}

func removed(p string) api.Edit    { return api.Edit{Kind: api.EditRemove, Path: p} }
func moves(p, to string) api.Edit  { return api.Edit{Kind: api.EditRename, Path: p, To: to} }
func swapped(p, q string) api.Edit { return api.Edit{Kind: api.EditExchange, Path: p, To: q} }
func linked(p, to string) api.Edit { return api.Edit{Kind: api.EditLink, Path: p, To: to} }
func moded(p string, mode int) api.Edit {
	return api.Edit{Kind: api.EditChmod, Path: p, Mode: mode}
}
func mkdir(p string, mode int) api.Edit {
	return api.Edit{Kind: api.EditMkdir, Path: p, Mode: mode}
}
func newFile(p, data string, mode int) api.Edit {
	return api.Edit{Kind: api.EditFile, Path: p, Data: []byte(data), Mode: mode}
}
func written(p, data string) api.Edit {
	return api.Edit{Kind: api.EditWrite, Path: p, Data: []byte(data)}
}

// stood: what the looks of this file are to find at w/d. A look makes ten calls: Stat and List of d, Stat and two Reads of d/a, Stat and List of d/e, Stat and Target of d/e/l, Stat of d/z.
func stood() []api.Thing {
	return []api.Thing{dirOf("", 5), fileOf("a", 6, text(513)), dirOf("e", 4), linkOf("e/l", "to"), fileOf("z", 3, "")}
}

// spoilt: a text with another byte at one place.
func spoilt(s string, at int) string {
	b := []byte(s)
	b[at]++
	return string(b)
}

type foundCase struct {
	what  string
	edits edits
	calls int  // so many are made up to what is other, or up to the end
	same  bool // nothing is other
}

// foundCases: what users do to the place, the way to it, or below it.
func foundCases() []foundCase {
	return []foundCase{
		{what: "nothing", calls: 10, same: true},
		{what: "the same mode again", edits: edits{moded("w/d", 5), moded("w/d/a", 6)}, calls: 10, same: true},
		{what: "the same bytes again", edits: edits{written("w/d/a", text(513))}, calls: 10, same: true},
		{what: "another thing of the same value", edits: edits{removed("w/d/a"), newFile("w/d/a", text(513), 6), removed("w/d/e/l"), linked("w/d/e/l", "to")}, calls: 10, same: true},
		{what: "another directory, all of it the same", edits: edits{moves("w/d", "old"), mkdir("w/d", 5), moves("old/a", "w/d/a"), moves("old/e", "w/d/e"), moves("old/z", "w/d/z")}, calls: 10, same: true},
		{what: "the mode of what is above", edits: edits{moded("w", 0), moded("", 0)}, calls: 10, same: true},
		{what: "things beside it", edits: edits{mkdir("w/c", 7), newFile("w/d.d", "x", 7), linked("w/e", "d")}, calls: 10, same: true},
		{what: "gone", edits: edits{moves("w/d", "old")}, calls: 1},
		{what: "no way: nothing", edits: edits{moves("w", "old")}, calls: 1},
		{what: "no way: a file", edits: edits{moves("w", "old"), newFile("w", "x", 7)}, calls: 1},
		{what: "no way: a link", edits: edits{moves("w", "old"), linked("w", "old")}, calls: 1},
		{what: "a file there", edits: edits{moves("w/d", "old"), newFile("w/d", "", 5)}, calls: 1},
		{what: "a link there", edits: edits{moves("w/d", "old"), linked("w/d", "../old")}, calls: 1},
		{what: "another mode", edits: edits{moded("w/d", 4)}, calls: 1},
		{what: "an empty directory there", edits: edits{moves("w/d", "old"), mkdir("w/d", 5)}, calls: 2},
		{what: "a thing more, the first", edits: edits{mkdir("w/d/A", 7)}, calls: 2},
		{what: "a thing more, in the middle", edits: edits{newFile("w/d/b", "", 7)}, calls: 2},
		{what: "a thing more, the last", edits: edits{linked("w/d/zz", "x")}, calls: 2},
		{what: "a thing less, the first", edits: edits{removed("w/d/a")}, calls: 2},
		{what: "a thing less, the last", edits: edits{removed("w/d/z")}, calls: 2},
		{what: "another name", edits: edits{moves("w/d/a", "w/d/b")}, calls: 2},
		{what: "another name, the last", edits: edits{moves("w/d/z", "w/d/y")}, calls: 2},
		{what: "a: another mode", edits: edits{moded("w/d/a", 7)}, calls: 3},
		{what: "a: a directory", edits: edits{removed("w/d/a"), mkdir("w/d/a", 6)}, calls: 3},
		{what: "a: a link", edits: edits{removed("w/d/a"), linked("w/d/a", text(513 + 1)[1:5])}, calls: 3},
		{what: "a: longer", edits: edits{written("w/d/a", text(514))}, calls: 3},
		{what: "a: shorter", edits: edits{written("w/d/a", text(512))}, calls: 3},
		{what: "a: no bytes", edits: edits{written("w/d/a", "")}, calls: 3},
		{what: "a: another first byte", edits: edits{written("w/d/a", spoilt(text(513), 0))}, calls: 5},
		{what: "a: another byte at the first piece's end", edits: edits{written("w/d/a", spoilt(text(513), 511))}, calls: 5},
		{what: "a: another last byte", edits: edits{written("w/d/a", spoilt(text(513), 512))}, calls: 5},
		{what: "a and z exchanged", edits: edits{swapped("w/d/a", "w/d/z")}, calls: 3},
		{what: "e: another mode", edits: edits{moded("w/d/e", 5)}, calls: 6},
		{what: "e: a file", edits: edits{moves("w/d/e", "old"), newFile("w/d/e", "", 4)}, calls: 6},
		{what: "e: a thing more", edits: edits{newFile("w/d/e/m", "", 4)}, calls: 7},
		{what: "e: a thing less", edits: edits{removed("w/d/e/l")}, calls: 7},
		{what: "e: another name", edits: edits{moves("w/d/e/l", "w/d/e/L")}, calls: 7},
		{what: "e/l: a longer text", edits: edits{removed("w/d/e/l"), linked("w/d/e/l", "too")}, calls: 8},
		{what: "e/l: a file", edits: edits{removed("w/d/e/l"), newFile("w/d/e/l", "to", 0)}, calls: 8},
		{what: "e/l: a directory", edits: edits{removed("w/d/e/l"), mkdir("w/d/e/l", 0)}, calls: 8},
		{what: "e/l: another text", edits: edits{removed("w/d/e/l"), linked("w/d/e/l", "ta")}, calls: 9},
		{what: "z: another mode", edits: edits{moded("w/d/z", 2)}, calls: 10},
		{what: "z: a byte", edits: edits{written("w/d/z", "x")}, calls: 10},
		{what: "z: a directory", edits: edits{removed("w/d/z"), mkdir("w/d/z", 3)}, calls: 10},
		{what: "all below other: the first one tells", edits: edits{moded("w/d/a", 7), moded("w/d/e", 7), moded("w/d/z", 7)}, calls: 3},
	}
}

// begunLook: an item over w/d, a link coming from the other volume, and so many of its steps done.
func begunLook(t testing.TB, what string, from, ahead int) *pair {
	t.Helper()
	sides := [2][]api.Thing{}
	sides[from], sides[1-from] = []api.Thing{linkOf("", "x")}, stood()
	p := begun(t, between(t, "w/d", sides[0], sides[1]), carry(1, "w/d", from))
	p.steps(t, what+": ahead of it", ahead)
	return p
}

// What a look finds, in the first step and in the put, and how many calls it makes, all of them of the volume that will be changed.
func TestP17_1Finds(t *testing.T) {
	for from := range 2 {
		for _, ahead := range []int{0, 2} {
			for _, c := range foundCases() {
				what := fmt.Sprintf("%s, behind %d steps, from %d", c.what, ahead, from)
				p := begunLook(t, what, from, ahead)
				p.each(func(w *world.World) {
					c.edits.done(t, w, 1-from)
					counted(w, 0)
					counted(w, 1)
				})
				before := images(p.w)
				did, e := p.step(t, what, 0)
				p.alike(t, what)
				want(t, what+": error", e, api.OK)
				want(t, what+": calls of the source", made(p.w, from), [2]int{})
				switch {
				case !c.same:
					want(t, what+": did", didName(did), "overtaken")
					want(t, what+": How", p.items[0].Done().How, api.HowOvertaken)
					want(t, what+": calls", made(p.w, 1-from), [2]int{0, c.calls})
					wantText(t, what+": the world", images(p.w), before)
					hasEnded(t, what, p.items[0], p.w)
				case ahead == 0:
					want(t, what+": did", didName(did), "look")
					want(t, what+": calls", made(p.w, 1-from), [2]int{0, c.calls})
					wantText(t, what+": the world", images(p.w), before)
				default:
					want(t, what+": did", didName(did), "put")
					want(t, what+": calls", made(p.w, 1-from), [2]int{1, c.calls})
				}
			}
		}
	}
}

// Each call of a look that fails: the item has failed with its error, and nothing is called behind it; but what is other ahead of it is found first.
func TestP17_1EachCallFails(t *testing.T) {
	for _, ahead := range []int{0, 2} {
		for call := range 10 {
			for _, c := range foundCases() {
				what := fmt.Sprintf("%s, behind %d steps, call %d fails", c.what, ahead, call)
				p := begunLook(t, what, api.A, ahead)
				p.each(func(w *world.World) {
					c.edits.done(t, w, api.B)
					w.Rig(api.B, call, 1, 0, true)
				})
				before := images(p.w)
				did, e := p.step(t, what, 0)
				p.near(t, what)
				if call >= c.calls {
					want(t, what+": did", didName(did), "overtaken")
					want(t, what+": error", e, api.OK)
					want(t, what+": calls that are left", strings.Index(rigged(p.w, api.B, true), "x"), call-c.calls)
					continue
				}
				want(t, what+": did", didName(did), "failed")
				want(t, what+": error", e, api.ErrWorldFault)
				want(t, what+": How", p.items[0].Done().How, api.HowFailed)
				want(t, what+": rigged calls that are left", strings.Index(rigged(p.w, api.B, true), "x"), -1)
				wantText(t, what+": the world", images(p.w), before)
				hasEnded(t, what, p.items[0], p.w)
			}
		}
	}
}

// Nothing is wanted: whatever stands there is other, and so is a way that isn't there.
func TestP17_1NothingWanted(t *testing.T) {
	for _, c := range []struct {
		what  string
		edits edits
		same  bool
	}{
		{"nothing", nil, true},
		{"things beside it", edits{mkdir("w/x.x", 7), newFile("w/y", "", 7)}, true},
		{"a file", edits{newFile("w/x", "", 7)}, false},
		{"a link", edits{linked("w/x", "to")}, false},
		{"a directory", edits{mkdir("w/x", 7)}, false},
		{"no way: nothing", edits{removed("w")}, false},
		{"no way: a file", edits{removed("w"), newFile("w", "", 7)}, false},
		{"no way: a link", edits{removed("w"), linked("w", "x")}, false},
	} {
		for _, ahead := range []int{0, 2} {
			what := fmt.Sprintf("%s, behind %d steps", c.what, ahead)
			w := worldOf(t, api.Caps{}, laid("w/x", []api.Thing{linkOf("", "to")}, 1), []api.Thing{dirAt("w", 7, 100)})
			p := begun(t, w, carry(1, "w/x", api.A))
			p.steps(t, what, ahead)
			p.each(func(w *world.World) {
				c.edits.done(t, w, api.B)
				counted(w, api.B)
			})
			before := images(w)
			did, e := p.step(t, what, 0)
			want(t, what+": error", e, api.OK)
			want(t, what+": reading calls", made(w, api.B)[1], 1)
			want(t, what+": overtaken", did == api.DidOvertaken, !c.same)
			if !c.same || ahead == 0 {
				want(t, what+": changing calls", made(w, api.B)[0], 0)
				wantText(t, what+": the world", images(w), before)
			}
			p.alike(t, what)
		}
	}
}

// The calls of a look by the kind of what is wanted: a file has a Read for each piece, a link one Target, a directory one List.
func TestP17_1CallsByKind(t *testing.T) {
	for _, c := range []struct {
		what   string
		things []api.Thing
		calls  int
	}{
		{"nothing", nil, 1},
		{"a file of 0 bytes", []api.Thing{fileOf("", 6, "")}, 1},
		{"a file of 1 byte", []api.Thing{fileOf("", 6, text(1))}, 2},
		{"a file of 511 bytes", []api.Thing{fileOf("", 6, text(511))}, 2},
		{"a file of 512 bytes", []api.Thing{fileOf("", 6, text(512))}, 2},
		{"a file of 513 bytes", []api.Thing{fileOf("", 6, text(513))}, 3},
		{"a file of 1024 bytes", []api.Thing{fileOf("", 6, text(1024))}, 3},
		{"a file of 1025 bytes", []api.Thing{fileOf("", 6, text(1025))}, 4},
		{"a link", []api.Thing{linkOf("", "to")}, 2},
		{"a long link", []api.Thing{linkOf("", strings.Repeat("t", api.MaxTarget))}, 2},
		{"an empty directory", []api.Thing{dirOf("", 6)}, 2},
		{"a directory of three", []api.Thing{dirOf("", 6), dirOf("a", 6), fileOf("b", 6, "x"), linkOf("c", "to")}, 8},
		{"directories in one another", []api.Thing{dirOf("", 6), dirOf("a", 6), dirOf("a/a", 6), fileOf("a/a/a", 6, "")}, 7},
	} {
		w := between(t, "x", []api.Thing{dirOf("", 3)}, c.things)
		p := begun(t, w, carry(1, "x", api.A))
		for i, reads := range []int{c.calls, 0, c.calls} {
			p.each(func(w *world.World) { counted(w, api.B) })
			p.steps(t, c.what, 1)
			want(t, fmt.Sprintf("%s, step %d: reading calls", c.what, i), made(w, api.B)[1], reads)
			p.alike(t, c.what)
		}
		want(t, c.what+": How", p.items[0].Done().How, api.HowPut)
	}
}

// Trees that tell another value than what stands there: each part of a value is held against it, and nothing else is.
func TestP17_1WantedIsOther(t *testing.T) {
	file, link, empty := fileOf("", 6, text(600)), linkOf("", "to"), dirOf("", 5)
	for _, c := range []struct {
		what   string
		stands api.Thing
		wanted api.Thing
		same   bool
	}{
		{"a file", file, file, true},
		{"its stamp and number", file, api.Thing{Kind: api.File, Mode: 6, Data: file.Data, Number: 77, Stamp: 9}, true},
		{"a file's mode", file, fileOf("", 7, text(600)), false},
		{"an unknown mode", file, fileOf("", api.Unknown, text(600)), false},
		{"a file's bytes", file, fileOf("", 6, spoilt(text(600), 599)), false},
		{"a file's size", file, fileOf("", 6, text(599)), false},
		{"a link", link, link, true},
		{"a link's text", link, linkOf("", "ot"), false},
		{"a link's size", link, linkOf("", "t"), false},
		{"a directory", empty, empty, true},
		{"a directory's mode", empty, dirOf("", 4), false},
		{"a directory's unknown mode", empty, dirOf("", api.Unknown), false},
		{"a link for a file", fileOf("", 0, "to"), link, false},
		{"a file for a link", link, fileOf("", 0, "to"), false},
		{"a directory for a file", fileOf("", 5, ""), empty, false},
		{"a file for a directory", empty, fileOf("", 5, ""), false},
	} {
		w := between(t, "x", nil, []api.Thing{c.stands})
		p := paired(w)
		p.begin(carry(1, "x", api.A), nil, treeOf(t, c.wanted))
		did, e := p.step(t, c.what, 0)
		want(t, c.what+": as wanted", did == api.DidLook, c.same)
		want(t, c.what+": overtaken", did == api.DidOvertaken, !c.same)
		want(t, c.what+": error", e, api.OK)
	}
}

// A size and a digest that don't belong together, in the tree.
func TestP17_1DigestOfOtherBytes(t *testing.T) {
	w := between(t, "x", nil, []api.Thing{fileOf("", 6, text(600))})
	x := treeOf(t, fileOf("", 6, text(600)))
	v := x.Value()
	for i := range v.Sum {
		other := v
		other.Sum[i] ^= 1
		y, e := x.Set("", other, [2]api.Mark{})
		wantOK(t, "Set", e)
		did, e := New(w, carry(1, "x", api.A), nil, y).Step()
		want(t, fmt.Sprint("byte ", i), didName(did), "overtaken")
		want(t, fmt.Sprint("byte ", i), e, api.OK)
	}
	marked, e := x.Set("", v, [2]api.Mark{{Number: 5, Stamp: 6}, {Number: 7, Stamp: 8}})
	wantOK(t, "Set", e)
	did, _ := New(w, carry(1, "x", api.A), nil, marked).Step()
	want(t, "marks aren't looked at", didName(did), "look")
}

// An edit between the two looks that is taken back ahead of the second one isn't seen.
func TestP17_1TakenBack(t *testing.T) {
	p := begunLook(t, "taken back", api.A, 1)
	p.each(func(w *world.World) {
		edits{written("w/d/a", "x"), moves("w/d/z", "q"), moded("w/d", 0)}.done(t, w, api.B)
	})
	p.steps(t, "meanwhile", 1)
	p.each(func(w *world.World) {
		edits{moded("w/d", 5), moves("q", "w/d/z"), written("w/d/a", text(513))}.done(t, w, api.B)
	})
	dids, e := p.toEnd(t, "taken back")
	want(t, "steps", dids, "put away away away away away")
	want(t, "error", e, api.OK)
}

// The source isn't looked at: what stands there matters to the stage alone.
func TestP17_1SourceIsNotLookedAt(t *testing.T) {
	w := between(t, "x", nil, nil)
	p := paired(w)
	p.begin(carry(1, "x", api.A), treeOf(t, dirOf("", 4)), nil) // A hasn't such a directory; a stage doesn't ask for it
	dids, _ := p.toEnd(t, "a directory")
	want(t, "steps", dids, "look stage put")
}
