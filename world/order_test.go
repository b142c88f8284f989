package world

import (
	"fmt"
	"math"
	"strings"
	"testing"

	"twine/api"
)

// This file: the order in which a call is refused. Each call is made with every blend of what may be wrong with it, and the first that is wrong must be the answer.

// flaw: something that may be wrong with a call, in the order of P9.3.
type flaw struct {
	is   api.Errno
	path string // what the path must be for that, if it is one of a path
}

// ground: A has the directories d and d/x, the files f and g, the link l.
func ground(t testing.TB) *World {
	t.Helper()
	w := empties(t)
	ok(t, w.Mkdir(api.A, "d"), w.Mkdir(api.A, "d/x"), w.Create(api.A, "f"), w.Append(api.A, "f", []byte("abc")), w.Create(api.A, "g"), w.Link(api.A, "l", "t"))
	return w
}

var volumesOut = []int{-1, 3, math.MaxInt, math.MinInt}

// formFlaws: what is told of a path by its text alone.
func formFlaws(root bool) []flaw {
	l := []flaw{
		{api.ErrPathDeep, strings.Repeat("a/", 66) + "a"},
		{api.ErrPathDeep, strings.Repeat("/", 66)},
		{api.ErrPathName, "a//b"}, {api.ErrPathName, "/a"}, {api.ErrPathName, ".."}, {api.ErrPathName, strings.Repeat("/", 65)}, {api.ErrPathName, "d/\x00"}, {api.ErrPathName, strings.Repeat("n", 256)},
	}
	if !root {
		l = append(l, flaw{api.ErrWorldRoot, ""})
	}
	return l
}

// wayFlaws: what is told of a path by what stands above it.
func wayFlaws() []flaw {
	return []flaw{{api.ErrWorldWay, "f/x"}, {api.ErrWorldWay, "l/x"}, {api.ErrWorldWay, "no/x"}, {api.ErrWorldWay, "f/x/y"}, {api.ErrWorldWay, "d/no/y"}, {api.ErrWorldWay, "d/x/y/z"}, {api.ErrWorldWay, strings.Repeat("a/", 65) + "a"}}
}

// single: a call of one path, as it is tried here.
type single struct {
	name    string
	do      func(w *World, v int, p string) api.Errno
	root    bool
	other   func(w *World, v int, p string) api.Errno // with a target, or a mode, that can't be
	otherIs api.Errno
	reading bool
	makes   bool
	late    []flaw // of what stands there
	good    string // a path at which it goes well
}

func singles() []single {
	return []single{
		{name: "Mkdir", do: (*World).Mkdir, makes: true, good: "n"},
		{name: "Create", do: (*World).Create, makes: true, good: "n"},
		{name: "Link", do: func(w *World, v int, p string) api.Errno { return w.Link(v, p, "t") }, makes: true, good: "n",
			other: func(w *World, v int, p string) api.Errno { return w.Link(v, p, "") }, otherIs: api.ErrWorldTarget},
		{name: "Append", do: func(w *World, v int, p string) api.Errno { return w.Append(v, p, []byte("x")) }, good: "f",
			late: []flaw{{api.ErrWorldKind, "d"}, {api.ErrWorldKind, "l"}}},
		{name: "Chmod", do: func(w *World, v int, p string) api.Errno { return w.Chmod(v, p, 4) }, root: true, good: "d",
			other: func(w *World, v int, p string) api.Errno { return w.Chmod(v, p, 8) }, otherIs: api.ErrWorldMode,
			late: []flaw{{api.ErrWorldKind, "l"}}},
		{name: "Sync", do: (*World).Sync, good: "f", late: []flaw{{api.ErrWorldKind, "d"}, {api.ErrWorldKind, "l"}}},
		{name: "Remove", do: (*World).Remove, good: "l", late: []flaw{{api.ErrWorldRest, "d"}}},
		{name: "Stat", do: func(w *World, v int, p string) api.Errno {
			s, e := w.Stat(v, p)
			return zeroIf(e, s == api.Stat{})
		}, root: true, reading: true, good: "l"},
		{name: "List", do: func(w *World, v int, p string) api.Errno {
			l, e := w.List(v, p)
			return zeroIf(e, len(l) == 0)
		}, root: true, reading: true, good: "d", late: []flaw{{api.ErrWorldKind, "f"}, {api.ErrWorldKind, "l"}}},
		{name: "Read", do: func(w *World, v int, p string) api.Errno {
			b, e := w.Read(v, p, 6, 0, 9)
			return zeroIf(e, len(b) == 0)
		}, reading: true, good: "f", late: []flaw{{api.ErrWorldOther, "d"}, {api.ErrWorldOther, "g"}, {api.ErrWorldOther, "l"}}},
		{name: "Read of a directory", do: func(w *World, v int, p string) api.Errno {
			b, e := w.Read(v, p, 4, 0, 9)
			return zeroIf(e, len(b) == 0)
		}, reading: true, late: []flaw{{api.ErrWorldKind, "d"}, {api.ErrWorldOther, "f"}}},
		{name: "Read of a link", do: func(w *World, v int, p string) api.Errno {
			b, e := w.Read(v, p, 8, 0, 9)
			return zeroIf(e, len(b) == 0)
		}, reading: true, late: []flaw{{api.ErrWorldKind, "l"}}},
		{name: "Target", do: func(w *World, v int, p string) api.Errno {
			s, e := w.Target(v, p)
			return zeroIf(e, s == "")
		}, reading: true, good: "l", late: []flaw{{api.ErrWorldKind, "d"}, {api.ErrWorldKind, "f"}}},
	}
}

// zeroIf: the error, or, if something was told beside it, none that there is.
func zeroIf(e api.Errno, zero bool) api.Errno {
	if e != api.OK && !zero {
		return -1
	}
	return e
}

// tried: an answer of a call, with and without a rig, on ground that nothing else was done to; and that nothing is changed by a refusal.
func tried(t *testing.T, what string, rig, reading bool, do func(w *World) api.Errno, wanted api.Errno) {
	t.Helper()
	w := ground(t)
	before := whole(w)
	if rig {
		w.Rig(api.A, 0, 1, 0, reading)
	}
	want(t, what, do(w), wanted)
	if got := whole(w); wanted != api.OK && got != before {
		t.Errorf("%s: refused, and changed:\n%s\nwas\n%s", what, got, before)
	}
}

func TestP9_3OrderOfOne(t *testing.T) {
	for _, c := range singles() {
		var late []flaw
		if c.makes {
			late = []flaw{{api.ErrWorldTwice, "d"}, {api.ErrWorldTwice, "f"}, {api.ErrWorldTwice, "l"}, {api.ErrWorldTwice, "d/x"}}
		} else {
			late = []flaw{{api.ErrWorldNone, "no"}, {api.ErrWorldNone, "d/no"}, {api.ErrWorldNone, "d/x/no"}}
		}
		late = append(append(late, wayFlaws()...), c.late...)
		for _, f := range append(formFlaws(c.root), late...) {
			what := fmt.Sprintf("%s %.9q", c.name, f.path)
			early := f.is == api.ErrPathDeep || f.is == api.ErrPathName || f.is == api.ErrWorldRoot
			for _, v := range volumesOut {
				tried(t, what, true, c.reading, func(w *World) api.Errno { return c.do(w, v, f.path) }, api.ErrWorldVolume)
			}
			with := api.ErrWorldFault
			if early {
				with = f.is
			}
			tried(t, what, false, c.reading, func(w *World) api.Errno { return c.do(w, api.A, f.path) }, f.is)
			tried(t, what+", rigged", true, c.reading, func(w *World) api.Errno { return c.do(w, api.A, f.path) }, with)
			if c.other != nil {
				with = c.otherIs
				if early {
					with = f.is
				}
				tried(t, what+", wrong", false, c.reading, func(w *World) api.Errno { return c.other(w, api.A, f.path) }, with)
				tried(t, what+", wrong and rigged", true, c.reading, func(w *World) api.Errno { return c.other(w, api.A, f.path) }, with)
				tried(t, what+", wrong, no volume", true, c.reading, func(w *World) api.Errno { return c.other(w, 3, f.path) }, api.ErrWorldVolume)
			}
		}
		if c.good != "" {
			tried(t, c.name+", right", false, c.reading, func(w *World) api.Errno { return c.do(w, api.A, c.good) }, api.OK)
			tried(t, c.name+", right, rigged", true, c.reading, func(w *World) api.Errno { return c.do(w, api.A, c.good) }, api.ErrWorldFault)
			tried(t, c.name+", right, the other sort rigged", true, !c.reading, func(w *World) api.Errno { return c.do(w, api.A, c.good) }, api.OK)
		}
		if c.root && c.name != "Read" {
			tried(t, c.name+" of the root", false, c.reading, func(w *World) api.Errno { return c.do(w, api.A, "") }, api.OK)
			tried(t, c.name+" of the root, rigged", true, c.reading, func(w *World) api.Errno { return c.do(w, api.A, "") }, api.ErrWorldFault)
		}
	}
}

// Rename and Exchange: every path with every other one. first: which of two answers is told.
func TestP9_3OrderOfTwo(t *testing.T) {
	goods := []flaw{{0, "f"}, {0, "d/x"}, {0, "l"}}
	nones := []flaw{{api.ErrWorldNone, "no"}, {api.ErrWorldNone, "d/no"}}
	var all []flaw
	for _, l := range [][]flaw{formFlaws(false), wayFlaws(), nones, goods} {
		all = append(all, l...)
	}
	rank := func(e api.Errno) int { // the places at which they are told
		switch e {
		case api.ErrPathDeep, api.ErrPathName, api.ErrWorldRoot:
			return 0
		case api.ErrWorldWay:
			return 2
		case api.ErrWorldNone:
			return 3
		}
		return 4
	}
	for name, do := range map[string]func(w *World, v int, x, y string) api.Errno{"Rename": (*World).Rename, "Exchange": (*World).Exchange} {
		for _, x := range all {
			for _, y := range all {
				first := x.is
				if rank(y.is) < rank(x.is) {
					first = y.is
				}
				if name == "Rename" && y.is == api.ErrWorldNone && x.is != api.ErrWorldWay && rank(x.is) > 0 {
					first = x.is
				}
				what := fmt.Sprintf("%s %.9q %.9q", name, x.path, y.path)
				w := ground(t)
				got := do(w, api.A, x.path, y.path)
				if first != api.OK {
					want(t, what, got, first)
				} else if got != api.OK && got != api.ErrWorldKind {
					t.Errorf("%s: %d", what, got)
				}
				if rank(first) > 0 {
					first = api.ErrWorldFault
				}
				tried(t, what+", rigged", true, false, func(w *World) api.Errno { return do(w, api.A, x.path, y.path) }, first)
				tried(t, what+", no volume", true, false, func(w *World) api.Errno { return do(w, -1, x.path, y.path) }, api.ErrWorldVolume)
			}
		}
	}
}

// SyncThing and SyncVolume have no path.
func TestP9_3OrderOfNone(t *testing.T) {
	for _, v := range volumesOut {
		tried(t, "SyncThing", true, false, func(w *World) api.Errno { return w.SyncThing(v, 6, 1) }, api.ErrWorldVolume)
		tried(t, "SyncVolume", true, false, func(w *World) api.Errno { return w.SyncVolume(v) }, api.ErrWorldVolume)
	}
	tried(t, "SyncThing", true, false, func(w *World) api.Errno { return w.SyncThing(api.A, 6, 1) }, api.ErrWorldFault)
	tried(t, "SyncThing", true, false, func(w *World) api.Errno { return w.SyncThing(api.A, 99, 1) }, api.ErrWorldFault)
	tried(t, "SyncThing", true, true, func(w *World) api.Errno { return w.SyncThing(api.A, 6, 1) }, api.OK)
	tried(t, "SyncVolume", true, false, func(w *World) api.Errno { return w.SyncVolume(api.A) }, api.ErrWorldFault)
	tried(t, "SyncVolume", true, true, func(w *World) api.Errno { return w.SyncVolume(api.A) }, api.OK)
}

// Targets and modes at their bounds.
func TestP9_3TargetsAndModes(t *testing.T) {
	for target, wanted := range map[string]api.Errno{
		"t": api.OK, "\xff": api.OK, "../..//": api.OK, strings.Repeat("t", 4095): api.OK,
		"": api.ErrWorldTarget, strings.Repeat("t", 4096): api.ErrWorldTarget, "\x00": api.ErrWorldTarget, "a\x00b": api.ErrWorldTarget, "ab\x00": api.ErrWorldTarget,
	} {
		tried(t, fmt.Sprintf("target %.9q", target), false, false, func(w *World) api.Errno { return w.Link(api.A, "n", target) }, wanted)
		tried(t, fmt.Sprintf("an edit's target %.9q", target), false, false, func(w *World) api.Errno {
			return w.Edit(api.A, api.Edit{Kind: api.EditLink, Path: "n", To: target})
		}, wanted)
	}
	for _, mode := range []int{math.MinInt, -1, 0, 1, 6, 7, 8, math.MaxInt} {
		wanted := api.OK
		if mode < 0 || mode > 7 {
			wanted = api.ErrWorldMode
		}
		for _, p := range []string{"", "d", "f"} {
			tried(t, fmt.Sprint("mode ", mode), false, false, func(w *World) api.Errno { return w.Chmod(api.A, p, mode) }, wanted)
			tried(t, fmt.Sprint("an edit's mode ", mode), false, false, func(w *World) api.Errno {
				return w.Edit(api.A, api.Edit{Kind: api.EditChmod, Path: p, Mode: mode})
			}, wanted)
		}
		for _, kind := range []int{api.EditMkdir, api.EditFile} {
			tried(t, fmt.Sprint("a new thing's mode ", mode), false, false, func(w *World) api.Errno {
				return w.Edit(api.A, api.Edit{Kind: kind, Path: "n", Mode: mode})
			}, wanted)
		}
	}
}

// Paths of as many names as may be, and one more.
func TestP9_3MaxWay(t *testing.T) {
	w := empties(t)
	p := "d"
	for range 64 {
		ok(t, w.Mkdir(api.A, p))
		p += "/d"
	}
	ok(t, w.Mkdir(api.A, p), w.Create(api.A, p+"/f"), w.Append(api.A, p+"/f", []byte("a")), w.Sync(api.A, p+"/f"), w.Chmod(api.A, p+"/f", 1))
	want(t, "66 names", stat(t, w, api.A, p+"/f").Size, 1)
	ok(t, w.Remove(api.A, p+"/f"), w.Link(api.A, p+"/l", "t"), w.Rename(api.A, p+"/l", p+"/m"), w.Mkdir(api.A, p+"/e"))
	for _, q := range []string{p + "/e/x", p + "/e/x/y"} {
		want(t, "Mkdir", w.Mkdir(api.A, q), api.ErrPathDeep)
		want(t, "Create", w.Create(api.A, q), api.ErrPathDeep)
		want(t, "Rename", w.Rename(api.A, p+"/m", q), api.ErrPathDeep)
		_, e := w.Stat(api.A, q)
		want(t, "Stat", e, api.ErrPathDeep)
	}
}
