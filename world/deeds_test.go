package world

import (
	"bytes"
	"fmt"
	"math"
	"slices"
	"strings"
	"testing"

	"twine/api"
)

func listed(t testing.TB, w *World, v int, p string) string {
	t.Helper()
	l, e := w.List(v, p)
	if e != api.OK {
		t.Fatalf("List of %q: %d", p, e)
	}
	return fmt.Sprintf("%q", l)
}

func read(t testing.TB, w *World, v int, p string) string {
	t.Helper()
	b, e := w.Read(v, p, stat(t, w, v, p).Number, 0, math.MaxInt)
	if e != api.OK {
		t.Fatalf("Read of %q: %d", p, e)
	}
	return string(b)
}

// sureOf: how many of a file's bytes are sure.
func sureOf(w *World, v int, p string) int {
	for _, t := range w.Image(v) {
		if t.Path == p {
			return t.Sure
		}
	}
	return -1
}

func TestP9_4Makes(t *testing.T) {
	for v := range 3 {
		w := empties(t)
		w.Tick()
		ok(t, w.Mkdir(v, "d"), w.Create(v, "d/f"), w.Link(v, "d/l", "../t"), w.Mkdir(v, "d/e"))
		want(t, "a directory", stat(t, w, v, "d"), api.Stat{Kind: api.Dir, Mode: 7, Number: 4, Stamp: 2})
		want(t, "a file", stat(t, w, v, "d/f"), api.Stat{Kind: api.File, Mode: 7, Number: 5, Stamp: 2})
		want(t, "a link", stat(t, w, v, "d/l"), api.Stat{Kind: api.Link, Size: 4, Number: 6, Stamp: 2})
		want(t, "empty", listed(t, w, v, "d/e"), "[]")
		want(t, "all", listed(t, w, v, "d"), `["e" "f" "l"]`)
		for u := range 3 {
			if u != v {
				want(t, "other volumes", listed(t, w, u, ""), "[]")
			}
		}
	}
}

// As many names as the caps allow, and one more; each volume by itself.
func TestP9_4FullOfNames(t *testing.T) {
	makes := map[string]func(w *World, v int, p string) api.Errno{
		"Mkdir": (*World).Mkdir, "Create": (*World).Create,
		"Link": func(w *World, v int, p string) api.Errno { return w.Link(v, p, "t") },
	}
	for name, do := range makes {
		w := made(t, api.Caps{Names: [3]int{2, 3, 0}}, 1, [3][]api.Thing{})
		ok(t, do(w, api.A, "a"), do(w, api.A, "b"), do(w, api.B, "a"), do(w, api.B, "b"), do(w, api.B, "c"))
		before := whole(w)
		want(t, name, do(w, api.A, "c"), api.ErrWorldFull)
		want(t, name, do(w, api.B, "d"), api.ErrWorldFull)
		want(t, name+": twice first", do(w, api.A, "b"), api.ErrWorldTwice)
		want(t, name+": nothing changes", whole(w), before)
		ok(t, w.Rename(api.A, "a", "c"), w.Exchange(api.A, "b", "c"), w.Remove(api.A, "c"))
		want(t, name+": room again", do(w, api.A, "e"), api.OK)
		want(t, name+": and full again", do(w, api.A, "f"), api.ErrWorldFull)
	}
	w := made(t, api.Caps{Names: [3]int{2, 0, 0}}, 1, [3][]api.Thing{})
	ok(t, w.Create(api.A, "a"), w.Link(api.A, "b", "t"), w.Rename(api.A, "a", "b"))
	want(t, "what stood there has no name any more", w.Create(api.A, "a"), api.OK)
	want(t, "full", w.Create(api.A, "c"), api.ErrWorldFull)
}

func TestP9_4Append(t *testing.T) {
	w := empties(t)
	ok(t, w.Create(api.A, "f"), w.Append(api.A, "f", []byte("ab")), w.Append(api.A, "f", nil), w.Append(api.A, "f", []byte("c\x00")), w.Append(api.A, "f", []byte{}))
	want(t, "the bytes", read(t, w, api.A, "f"), "abc\x00")
	want(t, "unsure", sureOf(w, api.A, "f"), 0)
	ok(t, w.Sync(api.A, "f"))
	want(t, "sure", sureOf(w, api.A, "f"), 4)
	ok(t, w.Append(api.A, "f", []byte("d")))
	want(t, "the new ones unsure", sureOf(w, api.A, "f"), 4)
	ok(t, w.SyncVolume(api.A))
	want(t, "no file's bytes by SyncVolume", sureOf(w, api.A, "f"), 4)
	for _, p := range []string{"d", "l"} {
		w := ground(t)
		want(t, "to "+p, w.Append(api.A, p, []byte("a")), api.ErrWorldKind)
		want(t, "nothing, to "+p, w.Append(api.A, p, nil), api.ErrWorldKind)
	}
	long := bytes.Repeat([]byte("0123456789"), 5000)
	for range 20 {
		ok(t, w.Append(api.A, "f", long))
	}
	want(t, "many bytes", read(t, w, api.A, "f"), "abc\x00d"+strings.Repeat(string(long), 20))
}

// Up to the caps, and one byte more: all files of the volume count, links don't.
func TestP9_4FullOfBytes(t *testing.T) {
	w := made(t, api.Caps{Bytes: [3]int{6, 0, 4}}, 1, [3][]api.Thing{})
	ok(t, w.Create(api.A, "f"), w.Create(api.A, "g"), w.Link(api.A, "l", "long target"), w.Append(api.A, "f", []byte("abc")), w.Append(api.A, "g", []byte("de")))
	before := whole(w)
	want(t, "two more", w.Append(api.A, "f", []byte("xy")), api.ErrWorldFull)
	want(t, "nothing changes", whole(w), before)
	want(t, "one more", w.Append(api.A, "f", []byte("x")), api.OK)
	want(t, "another one", w.Append(api.A, "g", []byte("y")), api.ErrWorldFull)
	want(t, "none", w.Append(api.A, "g", nil), api.OK)
	ok(t, w.Rename(api.A, "f", "g"))
	want(t, "what stood there has no bytes any more", w.Append(api.A, "g", []byte("zz")), api.OK)
	want(t, "full", w.Append(api.A, "g", []byte("z")), api.ErrWorldFull)
	ok(t, w.Exchange(api.A, "g", "l"), w.Remove(api.A, "l"), w.Create(api.A, "f"))
	want(t, "what is removed hasn't, either", w.Append(api.A, "f", []byte("123456")), api.OK)
	want(t, "full", w.Append(api.A, "f", []byte("7")), api.ErrWorldFull)
	ok(t, w.Create(api.B, "f"), w.Append(api.B, "f", make([]byte, 100000)))
	ok(t, w.Create(api.S, "f"), w.Append(api.S, "f", []byte("1234")))
	want(t, "S", w.Append(api.S, "f", []byte("5")), api.ErrWorldFull)
}

// A fall may leave more bytes than the caps allow: then there is no room even for none.
func TestP9_4AboveTheCaps(t *testing.T) {
	w := made(t, api.Caps{Bytes: [3]int{4, 0, 0}}, 1, inA(fileThing("f", "abcd", 4, 1)))
	ok(t, w.Create(api.A, "g"), w.Remove(api.A, "f"), w.Append(api.A, "g", []byte("wxyz")))
	w.Fall([3]int{1}, [3][]int{{9}})
	want(t, "both are there", told(w.Image(api.A)[1:]), "\"f\" 2 6 \"abcd\" 4 1 1\n\"g\" 2 7 \"wxyz\" 4 5 1")
	want(t, "a byte", w.Append(api.A, "g", []byte("x")), api.ErrWorldFull)
	want(t, "none", w.Append(api.A, "g", nil), api.ErrWorldFull)
	want(t, "a user's, of none", w.Edit(api.A, newFile("h", "", 7)), api.ErrWorldFull)
	want(t, "a file", w.Create(api.A, "h"), api.OK)
	want(t, "as many as the others leave", w.Edit(api.A, api.Edit{Kind: api.EditWrite, Path: "g"}), api.OK)
	want(t, "and one more", w.Edit(api.A, api.Edit{Kind: api.EditWrite, Path: "g", Data: []byte("1")}), api.ErrWorldFull)
}

// No file comes near MaxSize here: its bound is asked by itself.
func TestP9_4MaxSize(t *testing.T) {
	x := &empties(t).volumes[api.A]
	for _, c := range []struct {
		file, all, more int
		full            bool
	}{
		{0, 0, api.MaxSize, false}, {0, 0, api.MaxSize + 1, true},
		{api.MaxSize, api.MaxSize, 0, false}, {api.MaxSize, api.MaxSize, 1, true},
		{api.MaxSize - 1, api.MaxSize, 1, false}, {api.MaxSize - 1, api.MaxSize, 2, true},
		{1, 5 * api.MaxSize, 1, false},
	} {
		want(t, fmt.Sprint(c), x.full(c.file, c.all, c.more), c.full)
	}
}

func TestP9_4Chmod(t *testing.T) {
	w := ground(t)
	for _, p := range []string{"", "d", "f"} {
		for mode := range 8 {
			ok(t, w.Chmod(api.A, p, mode))
			want(t, p, stat(t, w, api.A, p).Mode, mode)
		}
	}
	want(t, "a link", w.Chmod(api.A, "l", 7), api.ErrWorldKind)
	want(t, "its mode", stat(t, w, api.A, "l").Mode, 0)
	want(t, "B's root", stat(t, w, api.B, "").Mode, 7)
}

func TestP9_4Sync(t *testing.T) {
	w := ground(t)
	ok(t, w.Append(api.A, "g", []byte("xy")))
	want(t, "ahead of it", sureOf(w, api.A, "f"), 0)
	ok(t, w.Sync(api.A, "f"))
	want(t, "behind it", sureOf(w, api.A, "f"), 3)
	want(t, "another file", sureOf(w, api.A, "g"), 0)
	w.Fall([3]int{math.MaxInt}, [3][]int{})
	want(t, "behind a fall", read(t, w, api.A, "f"), "abc")
	want(t, "another file", read(t, w, api.A, "g"), "")
}

// SyncThing: by number and stamp, wherever the file is; not by an elder stamp, not in another volume, of nothing but a file that is there.
func TestP9_4SyncThing(t *testing.T) {
	w := ground(t)
	ok(t, w.Rename(api.A, "f", "d/x/f"))
	f := stat(t, w, api.A, "d/x/f")
	w.Tick()
	ok(t, w.Append(api.A, "d/x/f", []byte("d")))
	before := whole(w)
	for _, c := range []struct{ v, number, stamp int }{
		{api.A, f.Number, f.Stamp}, {api.A, f.Number, 3}, {api.A, f.Number, 0}, {api.A, f.Number, -1}, {api.A, f.Number, math.MaxInt}, {api.B, f.Number, 2}, {api.S, f.Number, 2},
		{api.A, 4, 1}, {api.A, 8, 1}, {api.A, 0, 0}, {api.A, -1, 2}, {api.A, 99, 2}, {api.A, math.MinInt, math.MinInt},
	} {
		want(t, fmt.Sprint(c), w.SyncThing(c.v, c.number, c.stamp), api.ErrWorldOther)
	}
	want(t, "nothing changes", whole(w), before)
	ok(t, w.SyncThing(api.A, f.Number, 2))
	want(t, "all are sure", sureOf(w, api.A, "d/x/f"), 4)
	want(t, "the others aren't", sureOf(w, api.A, "g"), 0)
	ok(t, w.Remove(api.A, "d/x/f"))
	want(t, "gone", w.SyncThing(api.A, f.Number, 2), api.ErrWorldOther)
	ok(t, w.Create(api.A, "h"), w.Rename(api.A, "h", "g"))
	want(t, "gone by a Rename", w.SyncThing(api.A, 7, 1), api.ErrWorldOther)
}

func TestP9_4Remove(t *testing.T) {
	w := ground(t)
	want(t, "a directory with something", w.Remove(api.A, "d"), api.ErrWorldRest)
	ok(t, w.Remove(api.A, "d/x"), w.Remove(api.A, "d"), w.Remove(api.A, "f"), w.Remove(api.A, "l"))
	want(t, "what is left", listed(t, w, api.A, ""), `["g"]`)
	want(t, "again", w.Remove(api.A, "d"), api.ErrWorldNone)
	want(t, "below it", w.Remove(api.A, "d/x"), api.ErrWorldWay)
	ok(t, w.Mkdir(api.A, "d"))
	want(t, "a new one is empty", listed(t, w, api.A, "d"), "[]")
}

// SyncVolume: names, modes and links of this volume, and of no other.
func TestP9_4SyncVolume(t *testing.T) {
	for v := range 3 {
		w := empties(t)
		for u := range 3 {
			ok(t, w.Mkdir(u, "d"), w.Link(u, "l", "t"), w.Chmod(u, "", 3), w.Create(u, "f"), w.Append(u, "f", []byte("a")), w.Rename(u, "f", "g"))
		}
		ok(t, w.SyncVolume(v))
		w.Fall([3]int{}, [3][]int{})
		for u := range 3 {
			names, mode := "[]", 7
			if u == v {
				names, mode = `["d" "g" "l"]`, 3
				want(t, "a file's bytes", read(t, w, u, "g"), "")
			}
			want(t, "names", listed(t, w, u, ""), names)
			want(t, "the root's mode", stat(t, w, u, "").Mode, mode)
		}
	}
}

// Rename and Exchange of a place with itself: nothing is done; it is no change.
func TestP9_5Itself(t *testing.T) {
	for _, do := range []func(w *World, v int, x, y string) api.Errno{(*World).Rename, (*World).Exchange} {
		for _, p := range []string{"d", "d/x", "f", "l"} {
			w := ground(t)
			ok(t, w.SyncVolume(api.A))
			before := whole(w)
			ok(t, do(w, api.A, p, p))
			want(t, "itself", whole(w), before)
			ok(t, w.Create(api.A, "n"))
			if _, e := w.After([3]int{1}, [3][]int{}).Stat(api.A, "n"); e != api.OK {
				t.Errorf("%s with itself is a change", p)
			}
		}
		w := ground(t)
		want(t, "nothing with itself", do(w, api.A, "no", "no"), api.ErrWorldNone)
		want(t, "no way to itself", do(w, api.A, "f/x", "f/x"), api.ErrWorldWay)
	}
}

func TestP9_5Inside(t *testing.T) {
	w := ground(t)
	ok(t, w.Mkdir(api.A, "d/x/y"), w.Mkdir(api.A, "dd"))
	before := whole(w)
	want(t, "Rename into itself", w.Rename(api.A, "d", "d/n"), api.ErrWorldInside)
	want(t, "Rename over one below", w.Rename(api.A, "d", "d/x"), api.ErrWorldInside)
	want(t, "Rename far into itself", w.Rename(api.A, "d", "d/x/y/z"), api.ErrWorldInside)
	want(t, "Rename over one above", w.Rename(api.A, "d/x/y", "d"), api.ErrWorldInside)
	want(t, "Exchange", w.Exchange(api.A, "d", "d/x/y"), api.ErrWorldInside)
	want(t, "Exchange", w.Exchange(api.A, "d/x/y", "d/x"), api.ErrWorldInside)
	want(t, "nothing changes", whole(w), before)
	want(t, "a name that begins alike", w.Exchange(api.A, "d", "dd"), api.OK)
	want(t, "a name that begins alike", w.Rename(api.A, "dd", "d/n"), api.OK)
	want(t, "its things", listed(t, w, api.A, "d/n/x"), `["y"]`)
}

// Rename over each kind, by each kind.
func TestP9_5RenameOver(t *testing.T) {
	kinds := map[string]func(w *World, p string){
		"empty":   func(w *World, p string) { ok(t, w.Mkdir(api.A, p)) },
		"dir":     func(w *World, p string) { ok(t, w.Mkdir(api.A, p), w.Mkdir(api.A, p+"/x")) },
		"file":    func(w *World, p string) { ok(t, w.Create(api.A, p), w.Append(api.A, p, []byte(p))) },
		"link":    func(w *World, p string) { ok(t, w.Link(api.A, p, p)) },
		"nothing": func(w *World, p string) {},
	}
	for from, makeFrom := range kinds {
		for to, makeTo := range kinds {
			for _, q := range []string{"q", "s/q"} {
				w := empties(t)
				ok(t, w.Mkdir(api.A, "s"))
				makeFrom(w, "p")
				makeTo(w, q)
				wanted := api.OK
				switch {
				case from == "nothing":
					wanted = api.ErrWorldNone
				case to == "nothing":
				case from == "dir" || from == "empty" || to == "dir" || to == "empty":
					wanted = api.ErrWorldKind
				}
				before, was := whole(w), api.Stat{}
				if from != "nothing" {
					was = stat(t, w, api.A, "p")
				}
				w.Tick()
				what := from + " over " + to
				want(t, what, w.Rename(api.A, "p", q), wanted)
				if wanted != api.OK {
					want(t, what, whole(w)[1:], before[1:])
					continue
				}
				want(t, what, stat(t, w, api.A, q), was)
				_, e := w.Stat(api.A, "p")
				want(t, what+": where it was", e, api.ErrWorldNone)
				if from == "dir" {
					want(t, what+": below it", listed(t, w, api.A, q), `["x"]`)
				}
			}
		}
	}
}

// Exchange of each kind with each kind, each with what hangs below.
func TestP9_5Exchange(t *testing.T) {
	kinds := map[string]func(w *World, p string){
		"empty": func(w *World, p string) { ok(t, w.Mkdir(api.A, p)) },
		"dir": func(w *World, p string) {
			ok(t, w.Mkdir(api.A, p), w.Mkdir(api.A, p+"/x"), w.Create(api.A, p+"/x/"+p[:1]))
		},
		"file": func(w *World, p string) { ok(t, w.Create(api.A, p), w.Append(api.A, p, []byte(p))) },
		"link": func(w *World, p string) { ok(t, w.Link(api.A, p, p)) },
	}
	for one, makeOne := range kinds {
		for other, makeOther := range kinds {
			for _, q := range []string{"q", "s/q"} {
				w := empties(t)
				ok(t, w.Mkdir(api.A, "s"))
				makeOne(w, "p")
				makeOther(w, q)
				x, y := stat(t, w, api.A, "p"), stat(t, w, api.A, q)
				before := w.Image(api.A)
				w.Tick()
				ok(t, w.Exchange(api.A, "p", q))
				what := one + " with " + other
				want(t, what, stat(t, w, api.A, q), x)
				want(t, what, stat(t, w, api.A, "p"), y)
				for i, b := range before {
					switch {
					case b.Path == "p" || strings.HasPrefix(b.Path, "p/"):
						before[i].Path = q + b.Path[1:]
					case b.Path == q || strings.HasPrefix(b.Path, q+"/"):
						before[i].Path = "p" + b.Path[len(q):]
					}
				}
				slices.SortFunc(before, func(a, b api.Thing) int { return strings.Compare(a.Path, b.Path) })
				want(t, what, told(w.Image(api.A)), told(before))
			}
		}
	}
}

// deepAt: a world with a directory at p, and below it directories so many names deep, with a file as the last of them.
func deepAt(t *testing.T, w *World, p string, levels int) {
	t.Helper()
	ok(t, w.Mkdir(api.A, p))
	for range levels - 1 {
		p += "/x"
		ok(t, w.Mkdir(api.A, p))
	}
	ok(t, w.Create(api.A, p+"/f"), w.Mkdir(api.A, p+"/e"), w.Remove(api.A, p+"/e"))
}

// Up to MaxWay, by a run, and up to MaxDepth, by a user, and one more.
func TestP9_5Deep(t *testing.T) {
	runs := [2]func(w *World, x, y string) api.Errno{
		func(w *World, x, y string) api.Errno { return w.Rename(api.A, x, y) },
		func(w *World, x, y string) api.Errno { return w.Exchange(api.A, x, y) },
	}
	users := [2]func(w *World, x, y string) api.Errno{
		func(w *World, x, y string) api.Errno {
			return w.Edit(api.A, api.Edit{Kind: api.EditRename, Path: x, To: y})
		},
		func(w *World, x, y string) api.Errno {
			return w.Edit(api.A, api.Edit{Kind: api.EditExchange, Path: x, To: y})
		},
	}
	for most, l := range map[int][2]func(w *World, x, y string) api.Errno{api.MaxWay: runs, api.MaxDepth: users} {
		for levels := 1; levels < 30; levels += 7 {
			for _, more := range []int{0, 1, 3} {
				if more > levels {
					continue // the place itself would be too deep
				}
				things, last := chain("c", most-levels-1+more, 100)
				wanted := api.OK
				if more > 0 {
					wanted = api.ErrWorldDeep
				}
				for i, do := range l {
					for _, turned := range []bool{false, true} {
						if turned && i == 0 {
							continue // Rename goes one way
						}
						w := empties(t)
						for _, d := range append(things[:len(things):len(things)], dirThing("s", 1)) {
							ok(t, w.Mkdir(api.A, d.Path))
						}
						deepAt(t, w, "s/d", levels)
						to := last + "/n"
						if i == 1 {
							ok(t, w.Link(api.A, to, "t"))
						}
						from := "s/d"
						if turned {
							from, to = to, from
						}
						before := whole(w)
						want(t, fmt.Sprintf("call %d, turned %v, most %d, %d below, %d too many", i, turned, most, levels, more), do(w, from, to), wanted)
						if wanted != api.OK {
							want(t, "nothing changes", whole(w), before)
						}
					}
				}
			}
		}
	}
}

// A user's ErrWorldDeep asks MaxDepth of what hangs below now, too: runs may make longer paths.
func TestP9_5DeepOfRuns(t *testing.T) {
	w := empties(t)
	deepAt(t, w, "d", 64)
	ok(t, w.Mkdir(api.A, "e"))
	want(t, "a user's Rename", w.Edit(api.A, api.Edit{Kind: api.EditRename, Path: "d", To: "n"}), api.ErrWorldDeep)
	want(t, "a user's Exchange", w.Edit(api.A, api.Edit{Kind: api.EditExchange, Path: "e", To: "d"}), api.ErrWorldDeep)
	want(t, "a user's Rename of a part", w.Edit(api.A, api.Edit{Kind: api.EditRename, Path: "d/x", To: "n"}), api.OK)
	want(t, "a run's Rename", w.Rename(api.A, "n", "e/n"), api.OK)
	want(t, "a run's Rename", w.Rename(api.A, "e/n", "d/n"), api.OK)
	want(t, "a run's Exchange", w.Exchange(api.A, "e", "d"), api.OK)
}

// ErrWorldKind is told ahead of ErrWorldDeep.
func TestP9_5KindAheadOfDeep(t *testing.T) {
	things, last := chain("c", 65-1, 100)
	w := made(t, api.Caps{}, 1, inA(things...))
	deepAt(t, w, "d", 4)
	ok(t, w.Create(api.A, last+"/f"))
	want(t, "over a file", w.Rename(api.A, "d", last+"/f"), api.ErrWorldKind)
	want(t, "over nothing", w.Rename(api.A, "d", last+"/g"), api.ErrWorldDeep)
}
