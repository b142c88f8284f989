package world

import (
	"fmt"
	"math"
	"testing"

	"twine/api"
)

// of the calls that come to place 3 the first ones go on, the next ones fail, those behind them go on: of the changing and of the reading ones.
func TestP9_9Counts(t *testing.T) {
	for after := -1; after < 4; after++ {
		for calls := -1; calls < 4; calls++ {
			for _, c := range singles() {
				if c.good == "" {
					continue
				}
				w := ground(t)
				w.Rig(api.A, after, calls, 0, c.reading)
				for i := range 9 {
					wanted := api.OK
					if i >= max(after, 0) && i < max(after, 0)+max(calls, 0) {
						wanted = api.ErrWorldFault
					}
					got := c.do(w, api.A, c.good)
					if wanted == api.OK && got != api.ErrWorldFault { // a second Mkdir is refused, but not so
						got = api.OK
					}
					want(t, fmt.Sprint(c.name, " ", after, " ", calls, ": ", i), got, wanted)
				}
			}
		}
	}
}

// All changing calls are counted together, and all reading ones; each volume by itself.
func TestP9_9Sorts(t *testing.T) {
	changes := []func(w *World) api.Errno{
		func(w *World) api.Errno { return w.Mkdir(api.A, "n") },
		func(w *World) api.Errno { return w.Link(api.A, "n", "t") },
		func(w *World) api.Errno { return w.Create(api.A, "n") },
		func(w *World) api.Errno { return w.Append(api.A, "f", nil) },
		func(w *World) api.Errno { return w.Chmod(api.A, "f", 1) },
		func(w *World) api.Errno { return w.Sync(api.A, "f") },
		func(w *World) api.Errno { return w.SyncThing(api.A, 99, 1) },
		func(w *World) api.Errno { return w.Rename(api.A, "f", "f") },
		func(w *World) api.Errno { return w.Exchange(api.A, "f", "no") },
		func(w *World) api.Errno { return w.Remove(api.A, "d") },
		func(w *World) api.Errno { return w.SyncVolume(api.A) },
	}
	looks := []func(w *World) api.Errno{
		func(w *World) api.Errno { _, e := w.Stat(api.A, "f"); return e },
		func(w *World) api.Errno { _, e := w.List(api.A, "f"); return e },
		func(w *World) api.Errno { _, e := w.Read(api.A, "f", 1, 0, 0); return e },
		func(w *World) api.Errno { _, e := w.Target(api.A, "no/x"); return e },
	}
	for _, reading := range []bool{false, true} {
		counted, others := changes, looks
		if reading {
			counted, others = looks, changes
		}
		for after := range len(counted) + 1 {
			w := ground(t)
			w.Rig(api.A, after, 1, 0, reading)
			for i, do := range counted {
				for _, other := range others {
					if other(w) == api.ErrWorldFault {
						t.Errorf("the other sort fails")
					}
				}
				w.Mkdir(api.B, "d")
				w.Stat(api.S, "")
				w.Mkdir(3, "d")
				w.Chmod(api.A, "d", 8)
				w.Stat(api.A, "a//b")
				w.Edit(api.A, api.Edit{Kind: api.EditChmod, Path: "f", Mode: 2})
				w.Copy()
				w.Image(api.A)
				w.Tick()
				want(t, fmt.Sprint("after ", after, ", call ", i), do(w) == api.ErrWorldFault, i == after)
			}
		}
	}
}

func TestP9_9Volumes(t *testing.T) {
	for v := range 3 {
		for _, reading := range []bool{false, true} {
			w := empties(t)
			w.Rig(v, 0, 1, 0, reading)
			for u := range 3 {
				e := w.Mkdir(u, "d")
				want(t, "Mkdir", e == api.ErrWorldFault, u == v && !reading)
				_, e = w.Stat(u, "")
				want(t, "Stat", e == api.ErrWorldFault, u == v && reading)
			}
		}
	}
	w := empties(t)
	for _, v := range volumesOut {
		w.Rig(v, 0, 9, 0, false)
		w.Rig(v, 0, 9, 0, true)
	}
	for v := range 3 {
		ok(t, w.Mkdir(v, "d"))
		stat(t, w, v, "d")
	}
}

// A second Rig takes the first one's place: of its volume and sort alone.
func TestP9_9Second(t *testing.T) {
	w := empties(t)
	w.Rig(api.A, 0, 9, 0, false)
	w.Rig(api.A, 0, 9, 0, true)
	w.Rig(api.B, 0, 9, 0, false)
	want(t, "the first", w.Mkdir(api.A, "d"), api.ErrWorldFault)
	w.Rig(api.A, 1, 1, 0, false)
	want(t, "goes on", w.Mkdir(api.A, "d"), api.OK)
	want(t, "fails", w.Mkdir(api.A, "e"), api.ErrWorldFault)
	want(t, "goes on", w.Mkdir(api.A, "e"), api.OK)
	_, e := w.Stat(api.A, "d")
	want(t, "the reading ones", e, api.ErrWorldFault)
	want(t, "B's", w.Mkdir(api.B, "d"), api.ErrWorldFault)
	w.Rig(api.B, 0, 0, 0, false)
	want(t, "B's, no more", w.Mkdir(api.B, "d"), api.OK)
	w.Rig(api.A, math.MinInt, math.MaxInt, math.MinInt, false)
	for range 20 {
		want(t, "very many", w.Mkdir(api.A, "f"), api.ErrWorldFault)
	}
	w.Rig(api.A, math.MaxInt, math.MaxInt, math.MaxInt, false)
	want(t, "very many go on", w.Mkdir(api.A, "f"), api.OK)
}

// An Append that fails lays a part, if there is room for it; nothing else changes by any call that fails.
func TestP9_9Part(t *testing.T) {
	for _, c := range []struct {
		part, room int
		want       string
	}{
		{-1, 9, "abc"}, {math.MinInt, 9, "abc"}, {0, 9, "abc"}, {1, 9, "abcv"}, {2, 9, "abcvw"}, {4, 9, "abcvwxy"}, {5, 9, "abcvwxy"}, {math.MaxInt, 9, "abcvwxy"},
		{1, 3, "abc"}, {1, 4, "abcv"}, {2, 4, "abc"}, {4, 6, "abc"}, {4, 7, "abcvwxy"}, {9, 7, "abcvwxy"}, {9, 6, "abc"},
	} {
		w := made(t, api.Caps{Bytes: [3]int{c.room, 0, 0}}, 1, inA(fileThing("f", "abc", 2, 1)))
		w.Tick()
		w.Rig(api.A, 0, 1, c.part, false)
		want(t, "Append", w.Append(api.A, "f", []byte("vwxy")), api.ErrWorldFault)
		stamp := 1
		if c.want != "abc" {
			stamp = 2
		}
		want(t, fmt.Sprint("part ", c.part, " room ", c.room), told(w.Image(api.A)[1:]), fmt.Sprintf(`"f" 2 6 %q 2 1 %d`, c.want, stamp))
		want(t, "what was laid counts", w.Append(api.A, "f", make([]byte, c.room-len(c.want))), api.OK)
		want(t, "what was laid counts", w.Append(api.A, "f", []byte("z")), api.ErrWorldFull)
	}
	for _, p := range []string{"d", "l", "no", "f/x", "no/x"} {
		tried(t, p, false, false, func(w *World) api.Errno {
			w.Rig(api.A, 0, 1, 9, false)
			return w.Append(api.A, p, []byte("xyz"))
		}, api.ErrWorldFault)
	}
}

// The part is laid by each Append that fails, and by edits never.
func TestP9_9PartOfEach(t *testing.T) {
	w := empties(t)
	ok(t, w.Create(api.A, "f"))
	w.Rig(api.A, 1, 2, 2, false)
	for range 4 {
		w.Append(api.A, "f", []byte("abc"))
		edited(t, w, api.A, api.Edit{Kind: api.EditAppend, Path: "f", Data: []byte("-xy-")})
	}
	want(t, "the bytes", read(t, w, api.A, "f"), "abc-xy-ab-xy-ab-xy-abc-xy-")
}
