package world

import (
	"testing"

	"twine/api"
)

func stat(t testing.TB, w *World, v int, p string) api.Stat {
	t.Helper()
	s, e := w.Stat(v, p)
	if e != api.OK {
		t.Fatalf("Stat of %q: %d", p, e)
	}
	return s
}

func edited(t testing.TB, w *World, v int, l ...api.Edit) {
	t.Helper()
	for i, e := range l {
		if x := w.Edit(v, e); x != api.OK {
			t.Fatalf("edit %d: %d", i, x)
		}
	}
}

func newFile(p, data string, mode int) api.Edit {
	return api.Edit{Kind: api.EditFile, Path: p, Data: []byte(data), Mode: mode}
}

func TestP9_2Tick(t *testing.T) {
	w := empties(t)
	for i := range 5 {
		want(t, "Clock", w.Clock(), 1+i)
		w.Tick()
	}
	w = made(t, api.Caps{}, api.MaxBegin, [3][]api.Thing{})
	w.Tick()
	want(t, "above MaxBegin", w.Clock(), api.MaxBegin+1)
	ok(t, w.Mkdir(api.A, "d"))
	want(t, "a stamp above MaxBegin", stat(t, w, api.A, "d").Stamp, api.MaxBegin+1)
}

// Numbers go on over all volumes, and never come again: not behind a Remove, not behind a fall, not where a call was refused.
func TestP9_2Numbers(t *testing.T) {
	w := empties(t)
	ok(t, w.Mkdir(api.A, "d"), w.Create(api.B, "f"), w.Link(api.S, "l", "t"))
	want(t, "the first", stat(t, w, api.A, "d").Number, 4)
	want(t, "the second", stat(t, w, api.B, "f").Number, 5)
	want(t, "the third", stat(t, w, api.S, "l").Number, 6)
	edited(t, w, api.A, newFile("f", "", 0))
	want(t, "an edit's", stat(t, w, api.A, "f").Number, 7)
	ok(t, w.Remove(api.A, "f"), w.Create(api.A, "f"))
	want(t, "behind a Remove", stat(t, w, api.A, "f").Number, 8)
	w.Fall([3]int{}, [3][]int{})
	ok(t, w.Create(api.A, "f"))
	want(t, "behind a fall", stat(t, w, api.A, "f").Number, 9)
	w.Mkdir(api.A, "f")
	w.Mkdir(api.A, "f/x")
	w.Rig(api.A, 0, 1, 0, false)
	w.Mkdir(api.A, "g")
	ok(t, w.Mkdir(api.A, "g"))
	want(t, "behind refusals", stat(t, w, api.A, "g").Number, 10)
	c := w.Copy()
	ok(t, c.Mkdir(api.S, "x"), w.Mkdir(api.S, "x"))
	want(t, "in a copy", stat(t, c, api.S, "x").Number, 11)
	want(t, "beside a copy", stat(t, w, api.S, "x").Number, 11)
	w = made(t, api.Caps{}, 1, [3][]api.Thing{{dirThing("d", 30)}, {dirThing("", 70)}, {dirThing("e", 50)}})
	ok(t, w.Remove(api.A, "d"), w.Mkdir(api.A, "d"))
	want(t, "above all that were given, and the roots", stat(t, w, api.A, "d").Number, 73)
}

// A thing keeps its number wherever it goes; a stamp comes with bytes and modes alone.
func TestP9_2Stamps(t *testing.T) {
	w := empties(t)
	ok(t, w.Mkdir(api.A, "d"), w.Create(api.A, "f"), w.Link(api.A, "l", "t"))
	d, f, l := stat(t, w, api.A, "d").Number, stat(t, w, api.A, "f").Number, stat(t, w, api.A, "l").Number
	stamps := func() (int, int, int) {
		got := map[int]int{}
		for _, x := range w.Image(api.A) {
			got[x.Number] = x.Stamp
		}
		return got[d], got[f], got[l]
	}
	x, y, z := stamps()
	want(t, "made", [3]int{x, y, z}, [3]int{1, 1, 1})
	for _, c := range []struct {
		what    string
		do      func() api.Errno
		x, y, z int // 1: a new stamp
	}{
		{"Append of nothing", func() api.Errno { return w.Append(api.A, "f", nil) }, 0, 0, 0},
		{"Append", func() api.Errno { return w.Append(api.A, "f", []byte("a")) }, 0, 1, 0},
		{"Chmod", func() api.Errno { return w.Chmod(api.A, "d", 3) }, 1, 0, 0},
		{"Chmod to the same", func() api.Errno { return w.Chmod(api.A, "d", 3) }, 1, 0, 0},
		{"Chmod of a file", func() api.Errno { return w.Chmod(api.A, "f", 7) }, 0, 1, 0},
		{"Sync", func() api.Errno { return w.Sync(api.A, "f") }, 0, 0, 0},
		{"SyncThing", func() api.Errno { return w.SyncThing(api.A, f, stat(t, w, api.A, "f").Stamp) }, 0, 0, 0},
		{"SyncVolume", func() api.Errno { return w.SyncVolume(api.A) }, 0, 0, 0},
		{"Rename", func() api.Errno { return w.Rename(api.A, "f", "d/f") }, 0, 0, 0},
		{"Exchange", func() api.Errno { return w.Exchange(api.A, "d/f", "l") }, 0, 0, 0},
		{"Exchange back", func() api.Errno { return w.Exchange(api.A, "l", "d/f") }, 0, 0, 0},
		{"Mkdir beside", func() api.Errno { return w.Mkdir(api.A, "d/x") }, 0, 0, 0},
		{"Remove beside", func() api.Errno { return w.Remove(api.A, "d/x") }, 0, 0, 0},
		{"EditWrite", func() api.Errno {
			return w.Edit(api.A, api.Edit{Kind: api.EditWrite, Path: "d/f", Data: []byte("a")})
		}, 0, 1, 0},
		{"EditWrite of the same", func() api.Errno {
			return w.Edit(api.A, api.Edit{Kind: api.EditWrite, Path: "d/f", Data: []byte("a")})
		}, 0, 1, 0},
		{"EditAppend of nothing", func() api.Errno { return w.Edit(api.A, api.Edit{Kind: api.EditAppend, Path: "d/f"}) }, 0, 0, 0},
		{"EditAppend", func() api.Errno {
			return w.Edit(api.A, api.Edit{Kind: api.EditAppend, Path: "d/f", Data: []byte("b")})
		}, 0, 1, 0},
		{"EditChmod to the same", func() api.Errno {
			return w.Edit(api.A, api.Edit{Kind: api.EditChmod, Path: "d/f", Mode: 7})
		}, 0, 1, 0},
		{"EditSettle", func() api.Errno { return w.Edit(api.A, api.Edit{Kind: api.EditSettle}) }, 0, 0, 0},
		{"EditSync", func() api.Errno { return w.Edit(api.A, api.Edit{Kind: api.EditSync, Path: "d/f"}) }, 0, 0, 0},
	} {
		x, y, z := stamps()
		w.Tick()
		want(t, c.what, c.do(), api.OK)
		risen := func(stamp, new int) int { return stamp + new*(w.Clock()-stamp) }
		a, b, e := stamps()
		want(t, c.what, [3]int{a, b, e}, [3]int{risen(x, c.x), risen(y, c.y), risen(z, c.z)})
	}
}
