package apply

import (
	"fmt"
	"testing"

	"twine/api"
	"twine/world"
)

// A mode is one step, at the root, at the top and further down, there and back; the directory's things stay.
func TestP17_4Mode(t *testing.T) {
	for _, at := range []string{"", "d", "w/d"} {
		for from := range 2 {
			for was := range 8 {
				for mode := range 8 {
					what := fmt.Sprintf("%q from %d: %d to %d", at, from, was, mode)
					w := modeWorld(t, at, from, was)
					p := begun(t, w, both(1, at, from, mode))
					source := image(w, from)
					things := imageOf(w, 1-from, func(q string) bool { return q != at })
					want(t, what+": Phase", didName(p.items[0].Phase()), "put")
					want(t, what+": How", p.items[0].Done().How, api.HowNone)
					p.each(func(w *world.World) {
						w.Tick()
						counted(w, 0)
						counted(w, 1)
					})
					p.steps(t, what, 1)
					p.alike(t, what)
					want(t, what+": calls", made(w, 1-from), [2]int{1, 1})
					want(t, what+": calls of the source", made(w, from), [2]int{})
					want(t, what+": How", p.items[0].Done().How, api.HowPut)
					s, e := w.Copy().Stat(1-from, at)
					wantOK(t, what, e)
					want(t, what+": the mode", s.Mode, mode)
					want(t, what+": the kind", s.Kind, api.Dir)
					wantText(t, what+": the source", image(w, from), source)
					wantText(t, what+": all else", imageOf(w, 1-from, func(q string) bool { return q != at }), things)
					if was == 0 && mode < 2 {
						hasEnded(t, what, p.items[0], w)
					}
				}
			}
		}
	}
}

// modeWorld: a directory on both sides, with a mode on the one that an item goes to, and things in it.
func modeWorld(t testing.TB, at string, from, mode int) *world.World {
	t.Helper()
	w := between(t, "w/d", []api.Thing{dirOf("", 7)}, []api.Thing{dirOf("", 7)})
	for v := range 2 {
		edits{newFile("f", "x", 6), mkdir("d", 7), newFile("d/f", "x", 6), newFile("w/d/f", "x", 6)}.done(t, w, v)
	}
	edits{moded(at, mode)}.done(t, w, 1-from)
	return w
}

// What is other at the place, or on the way to it; what fails; and what isn't looked at.
func TestP17_4EachEnd(t *testing.T) {
	for _, c := range []struct {
		what  string
		edits edits
		did   string
	}{
		{"nothing", nil, "put"},
		{"gone", edits{moves("w/d", "old")}, "overtaken"},
		{"no way: nothing", edits{moves("w", "old")}, "overtaken"},
		{"no way: a file", edits{moves("w", "old"), newFile("w", "", 7)}, "overtaken"},
		{"no way: a link", edits{moves("w", "old"), linked("w", "old")}, "overtaken"},
		{"a file", edits{moves("w/d", "old"), newFile("w/d", "", 6)}, "overtaken"},
		{"a link", edits{moves("w/d", "old"), linked("w/d", "../old")}, "overtaken"},
		{"another mode", edits{moded("w/d", 5)}, "overtaken"},
		{"the mode that is to come", edits{moded("w/d", 3)}, "overtaken"},
		{"the mode again", edits{moded("w/d", 5), moded("w/d", 6)}, "put"},
		{"another directory", edits{moves("w/d", "old"), mkdir("w/d", 6)}, "put"},
		{"a thing more", edits{mkdir("w/d/new", 6)}, "put"},
		{"a thing less", edits{removed("w/d/f")}, "put"},
		{"another thing", edits{written("w/d/f", "other"), moded("w/d/f", 0)}, "put"},
		{"things beside it", edits{moded("w", 0), moded("d", 0)}, "put"},
	} {
		w := modeWorld(t, "w/d", api.A, 6)
		p := begun(t, w, both(1, "w/d", api.A, 3))
		p.each(func(w *world.World) {
			c.edits.done(t, w, api.B)
			counted(w, api.B)
		})
		before := images(w)
		did, e := p.step(t, c.what, 0)
		p.alike(t, c.what)
		want(t, c.what+": did", didName(did), c.did)
		want(t, c.what+": error", e, api.OK)
		if c.did == "overtaken" {
			want(t, c.what+": How", p.items[0].Done().How, api.HowOvertaken)
			want(t, c.what+": calls", made(w, api.B), [2]int{0, 1})
			wantText(t, c.what+": the world", images(w), before)
		}
		hasEnded(t, c.what, p.items[0], w)
	}
}

// A Stat or a Chmod that is refused.
func TestP17_4Fails(t *testing.T) {
	for _, c := range []struct {
		what string
		mode int
		do   func(w *world.World)
		e    api.Errno
		left bool // the changing call is rigged still
	}{
		{"Stat", 3, func(w *world.World) { w.Rig(api.B, 0, 1, 0, true) }, api.ErrWorldFault, true},
		{"Chmod", 3, func(w *world.World) {}, api.ErrWorldFault, false},
		{"Chmod: no mode", api.Unknown, func(w *world.World) {}, api.ErrWorldMode, true},
		{"Chmod: no mode", -1, func(w *world.World) {}, api.ErrWorldMode, true},
	} {
		for _, at := range []string{"", "d", "w/d"} {
			w := modeWorld(t, at, api.A, 6)
			p := begun(t, w, both(1, at, api.A, c.mode))
			p.each(func(w *world.World) {
				w.Rig(api.B, 0, 1, 0, false)
				c.do(w)
			})
			before := images(w)
			did, e := p.step(t, c.what, 0)
			p.alike(t, c.what)
			want(t, c.what+": did", didName(did), "failed")
			want(t, c.what+": error", e, c.e)
			want(t, c.what+": How", p.items[0].Done().How, api.HowFailed)
			want(t, c.what+": the changing call is rigged still", rigged(w, api.B, false)[0] == 'x', c.left)
			wantText(t, c.what+": the world", images(w), before)
			p.each(func(w *world.World) { w.Rig(api.B, 0, 0, 0, false) })
			hasEnded(t, c.what, p.items[0], w)
		}
	}
}

// A mode that dst has as unknown is no volume's.
func TestP17_4UnknownMode(t *testing.T) {
	w := modeWorld(t, "d", api.A, 6)
	p := paired(w)
	p.begin(both(1, "d", api.A, 5), treeOf(t, dirOf("", 5)), treeOf(t, dirOf("", api.Unknown)))
	did, e := p.step(t, "unknown", 0)
	want(t, "did", didName(did), "overtaken")
	want(t, "error", e, api.OK)
}
