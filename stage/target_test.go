package stage

import (
	"fmt"
	"strings"
	"testing"

	"twine/api"
	"twine/world"
)

// one: a tree of one thing, and its bytes.
type one struct {
	what string
	n    api.Node
	data string
}

func ones() []one {
	return []one{
		{"a directory", dir("", 5), ""},
		{"a file", filed("", 6, text(600)), text(600)},
		{"an empty file", filed("", 6, ""), ""},
		{"a link", link("", "to"), "to"},
	}
}

// Each error of the call that makes a thing: Mkdir, Create, Link. Those that would make the step overtaken, if the source answered them, make it fail.
func TestP16_3TargetRefuses(t *testing.T) {
	long := strings.Repeat("n", 256)
	for _, x := range ones() {
		for _, c := range []struct {
			what  string
			to    int
			place string
			do    func(w *world.World) api.Errno
			e     api.Errno
		}{
			{"no volume", 3, ".twine/1", nil, api.ErrWorldVolume},
			{"no volume", -1, "//", nil, api.ErrWorldVolume},
			{"no name", api.B, ".twine//1", nil, api.ErrPathName},
			{"no name", api.B, ".twine/" + long, nil, api.ErrPathName},
			{"too deep", api.B, ".twine" + strings.Repeat("/n", 66), nil, api.ErrPathDeep},
			{"the root", api.B, "", nil, api.ErrWorldRoot},
			{"a fault", api.B, ".twine/1", func(w *world.World) api.Errno { w.Rig(api.B, 0, 1, 0, false); return api.OK }, api.ErrWorldFault},
			{"a fault, and no way", api.B, "no/1", func(w *world.World) api.Errno { w.Rig(api.B, 0, 1, 0, false); return api.OK }, api.ErrWorldFault},
			{"no way: nothing", api.B, ".twine/no/1", nil, api.ErrWorldWay},
			{"no way: nothing, in another volume", api.S, ".twine/1", nil, api.ErrWorldWay},
			{"no way: a file", api.B, ".twine/f/1", func(w *world.World) api.Errno { return w.Create(api.B, ".twine/f") }, api.ErrWorldWay},
			{"no way: a link", api.B, ".twine/l/1", func(w *world.World) api.Errno { return w.Link(api.B, ".twine/l", "..") }, api.ErrWorldWay},
			{"a file stands there", api.B, ".twine/1", func(w *world.World) api.Errno { return w.Create(api.B, ".twine/1") }, api.ErrWorldTwice},
			{"a directory stands there", api.B, ".twine", nil, api.ErrWorldTwice},
			{"a link stands there", api.B, "l", func(w *world.World) api.Errno { return w.Link(api.B, "l", "to") }, api.ErrWorldTwice},
			{"in the source's volume, the source", api.A, "x", nil, api.ErrWorldTwice},
		} {
			what := x.what + ": " + c.what
			w := begun(t, "x", x.n, map[string]string{"": x.data})
			if c.do != nil {
				wantOK(t, what, c.do(w))
			}
			before := images(w)
			p := paired(w)
			p.begin(api.A, c.to, "x", c.place, treeOf(t, x.n))
			did, e := p.step(t, what, 0)
			want(t, what+": did", did, api.DidFailed)
			want(t, what+": error", e, c.e)
			wantText(t, what+": the world", images(w), before)
			p.alike(t, what)
			isOver(t, what, p.stages[0], w)
		}
	}
}

// A full volume refuses each of them.
func TestP16_3NoNames(t *testing.T) {
	for _, x := range ones() {
		l := begun(t, "x", x.n, map[string]string{"": x.data}).Image(api.A)
		w := worldOf(t, api.Caps{Names: [3]int{0, 1, 0}}, l...)
		before := images(w)
		s := New(w, api.A, api.B, "x", ".twine/1", treeOf(t, x.n))
		does(t, x.what, s, api.DidFailed, api.ErrWorldFull)
		isOver(t, x.what, s, w)
		wantText(t, x.what+": the world", images(w), before)
	}
}

// The source is asked ahead of the target: what it answers counts, though the target would refuse.
func TestP16_3SourceGoesAhead(t *testing.T) {
	for _, x := range ones()[1:] {
		w := worldOf(t, api.Caps{})
		does(t, x.what+": gone, and no way", New(w, api.A, api.B, "x", "no/1", treeOf(t, x.n)), api.DidOvertaken, api.ErrStageOther)
		does(t, x.what+": gone, and no volume", New(w, api.A, 7, "x", "1", treeOf(t, x.n)), api.DidOvertaken, api.ErrStageOther)
		w.Rig(api.A, 0, 1, 0, true)
		does(t, x.what+": a fault, and no way", New(w, api.A, api.B, "x", "no/1", treeOf(t, x.n)), api.DidFailed, api.ErrWorldFault)
		does(t, x.what+": another kind, and no way", New(w, api.B, api.B, ".twine", "no/1", treeOf(t, x.n)), api.DidOvertaken, api.ErrStageOther)
	}
	w := worldOf(t, api.Caps{}, linkAt("l", "other", 1))
	does(t, "another text, and no way", New(w, api.A, api.B, "l", "no/1", treeOf(t, link("", "to"))), api.DidOvertaken, api.ErrStageOther)
}

// Others at the staged file, between two of its steps: the next Append is refused, and that is a failure, none of the source's.
func TestP16_3AppendRefused(t *testing.T) {
	for _, c := range []struct {
		what  string
		do    func(w *world.World) []api.Errno
		e     api.Errno
		there string
	}{
		{"gone", func(w *world.World) []api.Errno {
			return []api.Errno{w.Remove(api.B, ".twine/1/f")}
		}, api.ErrWorldNone, "1 1.5.0.0"},
		{"gone with what is above", func(w *world.World) []api.Errno {
			return []api.Errno{w.Rename(api.B, ".twine/1", ".twine/2")}
		}, api.ErrWorldWay, "2 1.5.0.0, 2/f 2.7.512.0"},
		{"no staging place", func(w *world.World) []api.Errno {
			return []api.Errno{w.Rename(api.B, ".twine", "away")}
		}, api.ErrWorldWay, ""},
		{"a directory", func(w *world.World) []api.Errno {
			return []api.Errno{w.Remove(api.B, ".twine/1/f"), w.Mkdir(api.B, ".twine/1/f")}
		}, api.ErrWorldKind, "1 1.5.0.0, 1/f 1.7.0.0"},
		{"a link", func(w *world.World) []api.Errno {
			return []api.Errno{w.Remove(api.B, ".twine/1/f"), w.Link(api.B, ".twine/1/f", "to")}
		}, api.ErrWorldKind, "1 1.5.0.0, 1/f 3.0.2.0"},
		{"a fault", func(w *world.World) []api.Errno {
			w.Rig(api.B, 0, 1, 5, false)
			return nil
		}, api.ErrWorldFault, "1 1.5.0.0, 1/f 2.7.517.0"},
	} {
		w := exampled(t)
		p := paired(w)
		p.begin(api.A, api.B, "d", ".twine/1", treeOf(t, exampleTree()))
		p.step(t, c.what, 0)
		p.step(t, c.what, 0)
		p.each(func(w *world.World) { wantOK(t, c.what, c.do(w)...) })
		did, e := p.step(t, c.what, 0)
		want(t, c.what+": did", did, api.DidFailed)
		want(t, c.what+": error", e, c.e)
		want(t, c.what+": what is staged", staged(w), c.there)
		p.alike(t, c.what)
		isOver(t, c.what, p.stages[0], w)
	}
}

// A fall between any two steps, the source being sure: what it leaves of the staged things, the steps behind it meet.
func TestP16_3FallBetween(t *testing.T) {
	w := exampled(t)
	wantOK(t, "EditSettle", w.Edit(api.A, api.Edit{Kind: api.EditSettle}))
	for _, c := range []struct {
		steps, names, keep int
		did                int
		e                  api.Errno
		there              string
	}{
		{0, 0, 0, api.DidStage, api.OK, "1 1.5.0.0, 1/f 2.6.600.600"},
		{1, 0, 0, api.DidFailed, api.ErrWorldWay, ""},                      // the directory is gone
		{1, 1, 0, api.DidStage, api.OK, "1 1.7.0.0, 1/f 2.6.600.600"},      // its mode is
		{1, 2, 0, api.DidStage, api.OK, "1 1.5.0.0, 1/f 2.6.600.600"},      // all stays
		{2, 0, 0, api.DidFailed, api.ErrWorldWay, ""},                      // directory and file are gone
		{2, 2, 0, api.DidFailed, api.ErrWorldNone, "1 1.5.0.0"},            // the file is
		{2, 3, 0, api.DidStage, api.OK, "1 1.5.0.0, 1/f 2.6.88.88"},        // its bytes are
		{2, 3, 9999, api.DidStage, api.OK, "1 1.5.0.0, 1/f 2.6.600.600"},   // all stays
		{3, 0, 0, api.DidNothing, api.OK, ""},                              // nothing more is done
		{3, 3, 0, api.DidNothing, api.OK, "1 1.5.0.0, 1/f 2.7.600.600"},    // the bytes were sure
		{3, 9999, 0, api.DidNothing, api.OK, "1 1.5.0.0, 1/f 2.6.600.600"}, // the names are there
	} {
		what := fmt.Sprintf("behind %d steps, %d names", c.steps, c.names)
		p := paired(w.Copy())
		p.begin(api.A, api.B, "d", ".twine/1", treeOf(t, exampleTree()))
		for range c.steps {
			p.step(t, what, 0)
		}
		p.each(func(w *world.World) {
			w.Fall([3]int{c.names, c.names, c.names}, [3][]int{{c.keep}, {c.keep}, {c.keep}})
		})
		did, e := p.toEnd(t, what)
		want(t, what+": did", did, c.did)
		want(t, what+": error", e, c.e)
		want(t, what+": what is staged", staged(p.w), c.there)
	}
}

// Others put another file there, or change the staged one: no call is refused, and the steps go on as they were told to. (P16.4 speaks of this no more.)
func TestP16_3OthersAtThePlace(t *testing.T) {
	for _, c := range []struct {
		what  string
		do    func(w *world.World) []api.Errno
		there string
	}{
		{"another file", func(w *world.World) []api.Errno {
			return []api.Errno{w.Remove(api.B, ".twine/1/f"), w.Create(api.B, ".twine/1/f")}
		}, "1 1.5.0.0, 1/f 2.6.88.88"},
		{"a longer file", func(w *world.World) []api.Errno {
			return []api.Errno{w.Append(api.B, ".twine/1/f", []byte("xyz"))}
		}, "1 1.5.0.0, 1/f 2.6.603.603"},
		{"another mode", func(w *world.World) []api.Errno {
			return []api.Errno{w.Chmod(api.B, ".twine/1/f", 0), w.Chmod(api.B, ".twine/1", 0)}
		}, "1 1.0.0.0, 1/f 2.6.600.600"},
		{"one more beside it", func(w *world.World) []api.Errno {
			return []api.Errno{w.Mkdir(api.B, ".twine/1/e")}
		}, "1 1.5.0.0, 1/e 1.7.0.0, 1/f 2.6.600.600"},
	} {
		w := exampled(t)
		p := paired(w)
		p.begin(api.A, api.B, "d", ".twine/1", treeOf(t, exampleTree()))
		p.step(t, c.what, 0)
		p.step(t, c.what, 0)
		p.each(func(w *world.World) { wantOK(t, c.what, c.do(w)...) })
		did, e := p.toEnd(t, c.what)
		want(t, c.what+": did", did, api.DidStage)
		want(t, c.what+": error", e, api.OK)
		want(t, c.what+": what is staged", staged(w), c.there)
	}
}

// What was made stays, when a stage is over; another one at the same place meets it.
func TestP16_3WhatWasMadeStays(t *testing.T) {
	n, data := several()
	for steps := 1; steps <= 12; steps++ {
		w := begun(t, "d", n, data)
		s := New(w, api.A, api.B, "d", ".twine/1", treeOf(t, n))
		for range steps {
			does(t, "a step", s, api.DidStage, api.OK)
		}
		before := images(w)
		u := New(w, api.A, api.B, "d", ".twine/1", treeOf(t, n))
		does(t, fmt.Sprintf("another one, behind %d steps", steps), u, api.DidFailed, api.ErrWorldTwice)
		isOver(t, "another one", u, w)
		wantText(t, "the world", images(w), before)
		want(t, "Left of the first", s.Left(), 12-steps)
		left, did, e := run(s)
		want(t, "steps of the first", left, 12-steps)
		want(t, "did", did, api.DidNothing)
		want(t, "error", e, api.OK)
		wantText(t, "what is staged", pictured(w, api.B, ".twine/1"), values(treeOf(t, n)))
	}
}
