package world

import (
	"fmt"
	"math"
	"strings"
	"testing"

	"twine/api"
)

// steps: what makes a change of names each, one behind the other, on volume v of a world without things.
func steps(v int) []func(w *World) api.Errno {
	return []func(w *World) api.Errno{
		func(w *World) api.Errno { return w.Mkdir(v, "d") },
		func(w *World) api.Errno { return w.Create(v, "d/f") },
		func(w *World) api.Errno { return w.Link(v, "l", "d/f") },
		func(w *World) api.Errno { return w.Chmod(v, "d", 5) },
		func(w *World) api.Errno { return w.Rename(v, "d/f", "g") },
		func(w *World) api.Errno { return w.Exchange(v, "d", "g") },
		func(w *World) api.Errno { return w.Chmod(v, "", 1) },
		func(w *World) api.Errno { return w.Rename(v, "d", "l") },
		func(w *World) api.Errno { return w.Remove(v, "g") },
		func(w *World) api.Errno { return w.Chmod(v, "l", 7) },
		func(w *World) api.Errno { return w.Remove(v, "l") },
	}
}

// edits: the same by a user.
func edits(v int) []func(w *World) api.Errno {
	var l []func(w *World) api.Errno
	for _, e := range []api.Edit{
		{Kind: api.EditMkdir, Path: "d", Mode: 3},
		{Kind: api.EditFile, Path: "d/f", Mode: 2},
		{Kind: api.EditLink, Path: "l", To: "x"},
		{Kind: api.EditChmod, Path: "d", Mode: 5},
		{Kind: api.EditRename, Path: "d/f", To: "g"},
		{Kind: api.EditExchange, Path: "g", To: "d"},
		{Kind: api.EditRename, Path: "l", To: "d"},
		{Kind: api.EditRemove, Path: "g"},
		{Kind: api.EditRemove, Path: "d"},
	} {
		l = append(l, func(w *World) api.Errno { return w.Edit(v, e) })
	}
	return l
}

// names: a volume's names, kinds, modes, numbers, and links.
func namesOf(w *World, v int) string {
	var l []string
	for _, t := range w.Image(v) {
		target := ""
		if t.Kind == api.Link {
			target = string(t.Data)
		}
		l = append(l, fmt.Sprintf("%q %d %d %d %q", t.Path, t.Kind, t.Mode, t.Number, target))
	}
	return strings.Join(l, "\n")
}

// After each number of changes, from below 0 to more than there are: the state that was then, in each volume by itself.
func TestP9_8FirstChanges(t *testing.T) {
	for v := range 3 {
		for who, l := range map[string][]func(w *World) api.Errno{"a run": steps(v), "a user": edits(v)} {
			if v == api.S && who == "a user" {
				continue
			}
			w := empties(t)
			ok(t, w.Mkdir((v+1)%3, "other"))
			states := []string{namesOf(w, v)}
			for _, do := range l {
				ok(t, do(w))
				states = append(states, namesOf(w, v))
			}
			for n := -2; n < len(states)+2; n++ {
				for _, n := range []int{n, math.MinInt, math.MaxInt} {
					names := [3]int{-1, -1, -1}
					names[v] = n
					a := w.After(names, [3][]int{})
					want(t, fmt.Sprint(who, ": names ", n), namesOf(a, v), states[min(max(n, 0), len(states)-1)])
					want(t, "another volume", listed(t, a, (v+1)%3, ""), "[]")
				}
			}
			c := w.Copy()
			ok(t, c.SyncVolume(v))
			want(t, "none behind a SyncVolume", namesOf(c.After([3]int{}, [3][]int{}), v), states[len(states)-1])
		}
	}
}

// What is no change of names isn't counted.
func TestP9_8NoChanges(t *testing.T) {
	w := ground(t)
	edited(t, w, api.A, api.Edit{Kind: api.EditSettle})
	f := stat(t, w, api.A, "f")
	w.Append(api.A, "f", []byte("d"))
	w.Sync(api.A, "f")
	w.SyncThing(api.A, f.Number, f.Stamp)
	w.Rename(api.A, "f", "f")
	w.Exchange(api.A, "f", "f")
	w.Stat(api.A, "f")
	w.Mkdir(api.A, "f")
	w.Remove(api.A, "d")
	w.Chmod(api.A, "l", 1)
	w.Rig(api.A, 0, 1, 0, false)
	w.Mkdir(api.A, "n")
	w.Tick()
	w.Mkdir(api.B, "n")
	w.SyncVolume(api.B)
	edited(t, w, api.A, api.Edit{Kind: api.EditWrite, Path: "g", Data: []byte("g")}, api.Edit{Kind: api.EditAppend, Path: "g"}, api.Edit{Kind: api.EditSync, Path: "g"})
	ok(t, w.Mkdir(api.A, "first"), w.Mkdir(api.A, "second"))
	want(t, "names 0", listed(t, w.After([3]int{}, [3][]int{}), api.A, ""), `["d" "f" "g" "l"]`)
	want(t, "names 1", listed(t, w.After([3]int{1}, [3][]int{}), api.A, ""), `["d" "f" "first" "g" "l"]`)
}

// An EditFile is one change: bytes and mode come with it.
func TestP9_8EditFile(t *testing.T) {
	w := empties(t)
	edited(t, w, api.A, newFile("f", "abc", 2), newFile("g", "", 3), api.Edit{Kind: api.EditMkdir, Path: "d", Mode: 4})
	a := w.After([3]int{3}, [3][]int{{9}})
	want(t, "all", told(a.Image(api.A)[1:]), "\"d\" 1 4 \"\" 0 6 1\n\"f\" 2 2 \"abc\" 3 4 1\n\"g\" 2 3 \"\" 0 5 1")
	want(t, "one", told(w.After([3]int{1}, [3][]int{}).Image(api.A)[1:]), `"f" 2 2 "" 0 4 2`)
}

// keep: by path, from 0 on, each volume by its own list, the list gone through again.
func TestP9_8Keep(t *testing.T) {
	w := empties(t)
	for v := range 3 {
		for _, p := range []string{"a", "a/f", "a/l", "a.b", "b", "c", "d"} {
			switch p {
			case "a":
				ok(t, w.Mkdir(v, p))
			case "a/l":
				ok(t, w.Link(v, p, "target"))
			default:
				ok(t, w.Create(v, p), w.Append(v, p, []byte("01")), w.Sync(v, p), w.Append(v, p, []byte("2345")))
			}
		}
		ok(t, w.Sync(v, "b"))
	}
	bytesOf := func(w *World, v int) string {
		var l []string
		for _, p := range []string{"a/f", "a.b", "b", "c", "d"} {
			l = append(l, read(t, w, v, p))
			want(t, "all of it is sure", sureOf(w, v, p), len(l[len(l)-1]))
		}
		s, _ := w.Target(v, "a/l")
		want(t, "a link", s, "target")
		return strings.Join(l, " ")
	}
	all := [3]int{99, 99, 99}
	for _, c := range []struct {
		keep []int
		want string
	}{
		{nil, "01 01 012345 01 01"},
		{[]int{}, "01 01 012345 01 01"},
		{[]int{0}, "01 01 012345 01 01"},
		{[]int{-1}, "01 01 012345 01 01"},
		{[]int{math.MinInt}, "01 01 012345 01 01"},
		{[]int{1}, "012 012 012345 012 012"},
		{[]int{4}, "012345 012345 012345 012345 012345"},
		{[]int{5}, "012345 012345 012345 012345 012345"},
		{[]int{math.MaxInt}, "012345 012345 012345 012345 012345"},
		{[]int{1, 2}, "012 0123 012345 0123 012"},
		{[]int{1, -2, 3}, "012 01 012345 012 01"},
		{[]int{0, 1, 2, 3, 4}, "01 012 012345 01234 012345"},
		{[]int{0, 1, 2, 3, 4, 9, 9}, "01 012 012345 01234 012345"},
		{[]int{0, 0, 0, 0, 1}, "01 01 012345 01 012"},
	} {
		for v := range 3 {
			var keep [3][]int
			keep[v] = c.keep
			a := w.After(all, keep)
			want(t, fmt.Sprint("keep ", c.keep), bytesOf(a, v), c.want)
			want(t, "another volume", bytesOf(a, (v+1)%3), "01 01 012345 01 01")
		}
	}
	a := w.After([3]int{3, 99, 99}, [3][]int{{1, 2}, {3}, {1, 0}})
	want(t, "counted by what is there behind it", told(a.Image(api.A)[1:]), fmt.Sprintf("%s\n%s\n%s", `"a" 1 7 "" 0 4 1`, `"a/f" 2 7 "012" 3 5 2`, `"a/l" 3 0 "target" 0 6 1`))
	want(t, "B", bytesOf(a, api.B), "01234 01234 012345 01234 01234")
	want(t, "S", bytesOf(a, api.S), "012 01 012345 01 012")
}

// The risen clock as a stamp: for what has other bytes or another mode than it had last, and for nothing else.
func TestP9_8Stamps(t *testing.T) {
	w := empties(t)
	for _, p := range []string{"kept", "cut", "moded", "back", "gone", "gonecut"} {
		ok(t, w.Create(api.A, p), w.Append(api.A, p, []byte("abc")), w.Sync(api.A, p))
	}
	ok(t, w.Mkdir(api.A, "d"), w.Link(api.A, "l", "t"), w.SyncVolume(api.A))
	w.Tick()
	ok(t, w.Append(api.A, "cut", []byte("d")), w.Append(api.A, "gonecut", []byte("d")), w.Append(api.A, "kept", []byte("d")), w.Sync(api.A, "kept"))
	ok(t, w.Chmod(api.A, "moded", 3), w.Chmod(api.A, "back", 3), w.Chmod(api.A, "back", 7), w.Chmod(api.A, "d", 4), w.Chmod(api.A, "gone", 7))
	w.Tick()
	ok(t, w.Remove(api.A, "gone"), w.Remove(api.A, "gonecut"), w.Rename(api.A, "l", "m"))
	w.Tick()
	stamps := func(w *World) string {
		var l []string
		for _, x := range w.Image(api.A) {
			l = append(l, fmt.Sprint(x.Path, x.Mode, len(x.Data), "@", x.Stamp))
		}
		return strings.Join(l, " ")
	}
	want(t, "ahead", stamps(w), "7 0@1 back7 3@2 cut7 4@2 d4 0@2 kept7 4@2 m0 1@1 moded3 3@2")
	want(t, "none", stamps(w.After([3]int{}, [3][]int{})), "7 0@1 back7 3@2 cut7 3@5 d7 0@5 gone7 3@2 gonecut7 3@5 kept7 4@2 l0 1@1 moded7 3@5")
	want(t, "none, but all bytes", stamps(w.After([3]int{}, [3][]int{{9}})), "7 0@1 back7 3@2 cut7 4@2 d7 0@5 gone7 3@2 gonecut7 4@2 kept7 4@2 l0 1@1 moded7 3@5")
	want(t, "two", stamps(w.After([3]int{2}, [3][]int{{9}})), "7 0@1 back3 3@5 cut7 4@2 d7 0@5 gone7 3@2 gonecut7 4@2 kept7 4@2 l0 1@1 moded3 3@2")
	want(t, "all", stamps(w.After([3]int{99}, [3][]int{{9}})), stamps(w))
	want(t, "the clock", w.After([3]int{}, [3][]int{}).Clock(), 5)
}

// All is sure behind a fall, and what isn't there is gone for good.
func TestP9_8GoneForGood(t *testing.T) {
	w := ground(t)
	ok(t, w.Sync(api.A, "f"))
	w.Fall([3]int{3}, [3][]int{})
	first := namesOf(w, api.A)
	want(t, "what is left", listed(t, w, api.A, ""), `["d" "f"]`)
	w.Fall([3]int{99}, [3][]int{{99}})
	want(t, "a second fall", namesOf(w, api.A), first)
	want(t, "the clock", w.Clock(), 3)
	want(t, "a thing that is gone", w.SyncThing(api.A, 7, 1), api.ErrWorldOther)
	ok(t, w.Remove(api.A, "d/x"), w.Remove(api.A, "f"), w.SyncVolume(api.A))
	w.Fall([3]int{99}, [3][]int{{99}})
	want(t, "behind a SyncVolume", listed(t, w, api.A, ""), `["d"]`)
}

// Bytes that were lost don't come back, and bytes that are laid then come behind what was left.
func TestP9_8BytesBehind(t *testing.T) {
	w := empties(t)
	edited(t, w, api.A, newFile("f", "abcdef", 7))
	before := w.Copy()
	w.Fall([3]int{1}, [3][]int{{3}})
	ok(t, w.Append(api.A, "f", []byte("x")))
	want(t, "the bytes", read(t, w, api.A, "f"), "abcx")
	want(t, "sure", sureOf(w, api.A, "f"), 3)
	want(t, "a copy from ahead of it", read(t, before, api.A, "f"), "abcdef")
}

// A fall ends rigs and claims.
func TestP9_8RigsAndClaims(t *testing.T) {
	w := empties(t)
	for v := range 3 {
		w.Rig(v, 0, 9, 9, false)
		w.Rig(v, 1, 9, 9, true)
	}
	c := w.Claim()
	a := w.After([3]int{}, [3][]int{})
	want(t, "After", a.Owns(c), false)
	want(t, "the next claim", a.Claim(), 2)
	for v := range 3 {
		ok(t, a.Mkdir(v, "d"))
		stat(t, a, v, "d")
		stat(t, a, v, "d")
	}
	want(t, "nothing has changed", w.Owns(c), true)
	want(t, "nothing has changed", w.Mkdir(api.A, "d"), api.ErrWorldFault)
	w.Fall([3]int{}, [3][]int{})
	want(t, "Fall", w.Owns(c), false)
	for v := range 3 {
		ok(t, w.Mkdir(v, "d"))
		stat(t, w, v, "d")
		stat(t, w, v, "d")
	}
}

// After is a Fall of a Copy, and nothing changes by it: not the clock, not the rigs, not what a later fall does.
func TestP9_8After(t *testing.T) {
	w := ground(t)
	w.Rig(api.A, 2, 2, 1, false)
	w.Rig(api.B, 0, 1, 0, true)
	c := w.Claim()
	same := w.Copy()
	for n := range 9 {
		for _, keep := range [][]int{nil, {1}, {9}} {
			names := [3]int{n, n, n}
			a := w.After(names, [3][]int{keep, keep, keep})
			f := w.Copy()
			f.Fall(names, [3][]int{keep, keep, keep})
			want(t, "After and Fall", whole(a), whole(f))
			a.Edit(api.A, api.Edit{Kind: api.EditMkdir, Path: "n"})
			f.Append(api.A, "f", []byte("x"))
		}
	}
	want(t, "the world", whole(w), whole(same))
	want(t, "the claim", w.Owns(c), true)
	want(t, "the clock", w.Clock(), 1)
	for i, wanted := range []api.Errno{0, 0, api.ErrWorldFault, api.ErrWorldFault, 0} {
		want(t, "the rigs", w.Chmod(api.A, "d", i), wanted)
		want(t, "the copy's rigs", same.Chmod(api.A, "d", i), wanted)
	}
	w.Fall([3]int{99}, [3][]int{})
	same.Fall([3]int{99}, [3][]int{})
	want(t, "a fall then", whole(w), whole(same))
}
