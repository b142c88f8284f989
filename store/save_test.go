package store

import (
	"fmt"
	"testing"

	"twine/api"
	"twine/world"
)

// sizes: no bytes, one, about a piece, about two, more.
var sizes = []int{0, 1, 511, 512, 513, 600, 1023, 1024, 1025, 1536, 3000}

// stepsOf: how many steps a saver of so many bytes has.
func stepsOf(size int) int { return 5 + (size+511)/512 }

// saves looks at what a Step answers, and at Where behind it.
func saves(t testing.TB, what string, s *Saver, ended bool, e api.Errno, where int) {
	t.Helper()
	got, err := s.Step()
	if got != ended || err != e || s.Where() != where {
		t.Errorf("%s: %v, %d, Where %d, want %v, %d, %d", what, got, err, s.Where(), ended, e, where)
	}
}

// saved: a saver that has done so many steps, whatever they answered.
func saved(w *world.World, text string, steps int) *Saver {
	s := Save(w, []byte(text))
	for range steps {
		s.Step()
	}
	return s
}

// Save, and Where, call nothing.
func TestP10_5SaveCallsNothing(t *testing.T) {
	for _, at := range []spot{nothing, filed("old"), emptyDir} {
		w := worldOf(t, api.Caps{}, at, filed("x"), false)
		w.Rig(api.S, 0, 3, 9, false)
		w.Rig(api.S, 0, 3, 9, true)
		before := told(w)
		for _, size := range sizes {
			want(t, "Where", Save(w, []byte(text(size))).Where(), api.SavedNo)
		}
		want(t, "Where", Save(w, nil).Where(), api.SavedNo)
		want(t, "Save", told(w), before)
	}
}

// What S holds behind each step: bytes come piece by piece, one changing call a step.
func TestP10_5Steps(t *testing.T) {
	for _, size := range sizes {
		for _, at := range []spot{nothing, filed("old"), filed(""), linked} {
			w := worldOf(t, api.Caps{}, at, nothing, true)
			number := fresher(w)
			counted(w)
			b := text(size)
			s := Save(w, []byte(b))
			n := stepsOf(size)
			for i := 1; i <= n; i++ {
				what := fmt.Sprintf("%d bytes, over %s, step %d of %d", size, at.what, i, n)
				where := max(i-n+2, 0)
				saves(t, what, s, i == n, api.OK, where)
				want(t, what+": calls", made(w), [2]int{i, 0})
				laid := min(512*(i-1), size)
				sure := 0
				if i > n-4 {
					sure = size
				}
				p := "archive.new"
				if where > 0 {
					p = "archive"
					want(t, what+": archive.new", fileAt(w, "archive.new"), "no file")
				} else {
					stands(t, what, w, at)
				}
				want(t, what, fileAt(w, p), fmt.Sprintf("%q %d bytes sure, mode 7, number %d", b[:laid], sure, number))
			}
		}
	}
}

// fresher: the number that the next thing gets.
func fresher(w *world.World) int {
	most := 0
	for v := range 3 {
		for _, x := range w.Image(v) {
			most = max(most, x.Number)
		}
	}
	return most + 1
}

func fileAt(w *world.World, p string) string {
	for _, x := range w.Image(api.S) {
		if x.Path == p && x.Kind == api.File {
			return fmt.Sprintf("%q %d bytes sure, mode %d, number %d", x.Data, x.Sure, x.Mode, x.Number)
		}
	}
	return "no file"
}

// stands looks that a spot is at `archive` as it was put there.
func stands(t testing.TB, what string, w *world.World, at spot) {
	t.Helper()
	got := nothing
	for _, x := range w.Image(api.S) {
		if x.Path == "archive" {
			got = spot{what: at.what, kind: x.Kind, data: string(x.Data)}
		}
	}
	want(t, what+": archive", got, at)
}

// As the plain saver, step by step, at everything that may stand at the two places, with each changing call rigged to fail, and all from it on.
func TestP10_6AllRigs(t *testing.T) {
	for _, size := range []int{0, 1, 512, 513, 1100} {
		for _, at := range []spot{nothing, linked, emptyDir, fullDir, filed("old")} {
			for _, atFresh := range freshSpots() {
				for after := -1; after <= stepsOf(size); after++ {
					w := worldOf(t, api.Caps{}, at, atFresh, after%2 == 0)
					if after >= 0 {
						w.Rig(api.S, after, 1+after&1*far, 100*after, false)
						w.Rig(api.S, 0, far, 0, true)
					}
					what := fmt.Sprintf("%d bytes, %s, new: %s, rigged at %d", size, at.what, atFresh.what, after)
					p := paired(w)
					p.save(text(size))
					for range stepsOf(size) + 2 {
						if !p.step(t, what, 0) || !p.near(t, what) {
							return
						}
					}
					if !p.alike(t, what) {
						return
					}
				}
			}
		}
	}
}

// Each single call rigged to fail: the error, Where, and that nothing is called any more.
func TestP10_6EachCall(t *testing.T) {
	for _, size := range sizes {
		n := stepsOf(size)
		for k := 1; k <= n; k++ {
			for _, failing := range []int{1, far} {
				what := fmt.Sprintf("%d bytes, call %d of %d", size, k, n)
				w := worldOf(t, api.Caps{}, filed("old"), nothing, true)
				w.Rig(api.S, k-1, failing, 0, false)
				s := Save(w, []byte(text(size)))
				for i := 1; i < k; i++ {
					saves(t, what, s, false, api.OK, max(i-n+2, 0))
				}
				where := api.SavedNo // ahead of the Rename, and of the Rename itself
				if k == n {
					where = api.SavedPerhaps
				}
				saves(t, what, s, false, api.ErrWorldFault, where)
				before := told(w)
				for range n + 2 {
					saves(t, what+", again", s, false, api.ErrWorldFault, where)
				}
				want(t, what+": a further Step does nothing", told(w), before)
				if failing > 1 {
					want(t, what+": calls", k-1+failing-left(w, false), k)
				}
				wanted := "old"
				if k == n {
					wanted = text(size)
				}
				got, _ := bytesAt(w, "archive")
				want(t, what+": archive", got, wanted)
			}
		}
	}
}

// An Append that fails may lay a part: the saver has ended all the same, and a loader takes the rest away.
func TestP10_6Part(t *testing.T) {
	good := archiveOf(t, some(), 3)
	for _, part := range []int{0, 1, 511, 512, 9999} {
		for k := 1; k <= 2; k++ {
			w := worldOf(t, api.Caps{}, filed(good), nothing, true)
			w.Rig(api.S, k, 1, part, false)
			s := saved(w, text(1024), k)
			saves(t, "Append", s, false, api.ErrWorldFault, api.SavedNo)
			saves(t, "Append, again", s, false, api.ErrWorldFault, api.SavedNo)
			got, _ := bytesAt(w, "archive.new")
			want(t, "what is laid", got, text(1024)[:512*(k-1)+min(part, 512)])
			tells(t, "a loader", loaded(w, 99, 2), some(), 3)
			if _, still := bytesAt(w, "archive.new"); still {
				t.Error("archive.new is there still")
			}
		}
	}
}

// Behind the end: true and OK, and nothing is called, whatever others do.
func TestP10_6BehindTheEnd(t *testing.T) {
	for _, size := range sizes {
		w := worldOf(t, api.Caps{}, filed("old"), nothing, true)
		s := saved(w, text(size), stepsOf(size))
		w.Rig(api.S, 0, far, 0, false)
		before := told(w)
		for range 3 {
			saves(t, "behind the end", s, true, api.OK, api.SavedYes)
		}
		want(t, "the world", told(w), before)
		w.Fall([3]int{}, [3][]int{})
		ok(t, w.Remove(api.S, "archive"))
		saves(t, "behind a fall", s, true, api.OK, api.SavedYes)
		want(t, "S holds the root alone", len(w.Image(api.S)), 1)
	}
}

// A saver among others' changes of S: each call finds what is there then, and its error is the saver's.
func TestP10_6Others(t *testing.T) {
	const size = 600 // Create, Append, Append, Sync, SyncVolume, Rename, SyncVolume
	remove := func(p string) func(w *world.World) api.Errno {
		return func(w *world.World) api.Errno { return w.Remove(api.S, p) }
	}
	both := func(l ...func(w *world.World) api.Errno) func(w *world.World) api.Errno {
		return func(w *world.World) api.Errno {
			for _, do := range l {
				if e := do(w); e != api.OK {
					return e
				}
			}
			return api.OK
		}
	}
	mkdir := func(p string) func(w *world.World) api.Errno {
		return func(w *world.World) api.Errno { return w.Mkdir(api.S, p) }
	}
	linkAt := func(p string) func(w *world.World) api.Errno {
		return func(w *world.World) api.Errno { return w.Link(api.S, p, "t") }
	}
	create := func(p string) func(w *world.World) api.Errno {
		return func(w *world.World) api.Errno { return w.Create(api.S, p) }
	}
	appendTo := func(p, b string) func(w *world.World) api.Errno {
		return func(w *world.World) api.Errno { return w.Append(api.S, p, []byte(b)) }
	}
	for _, c := range []struct {
		what   string
		behind int // so many steps
		do     func(w *world.World) api.Errno
		fails  int // the step that fails; 0: none
		err    api.Errno
		holds  string // archive, at the end
	}{
		{"a file is new already", 0, create("archive.new"), 1, api.ErrWorldTwice, "old"},
		{"a directory is new already", 0, mkdir("archive.new"), 1, api.ErrWorldTwice, "old"},
		{"a link is new already", 0, linkAt("archive.new"), 1, api.ErrWorldTwice, "old"},
		{"it is gone", 1, remove("archive.new"), 2, api.ErrWorldNone, "old"},
		{"it is gone", 2, remove("archive.new"), 3, api.ErrWorldNone, "old"},
		{"it is gone", 3, remove("archive.new"), 4, api.ErrWorldNone, "old"},
		{"it is gone", 4, remove("archive.new"), 6, api.ErrWorldNone, "old"},
		{"it is gone", 5, remove("archive.new"), 6, api.ErrWorldNone, "old"},
		{"it is a directory", 1, both(remove("archive.new"), mkdir("archive.new")), 2, api.ErrWorldKind, "old"},
		{"it is a link", 2, both(remove("archive.new"), linkAt("archive.new")), 3, api.ErrWorldKind, "old"},
		{"it is a directory", 3, both(remove("archive.new"), mkdir("archive.new")), 4, api.ErrWorldKind, "old"},
		{"it is a directory", 5, both(remove("archive.new"), mkdir("archive.new")), 6, api.ErrWorldKind, "old"},
		{"a directory is at archive", 5, both(remove("archive"), mkdir("archive")), 6, api.ErrWorldKind, "no file"},
		{"a link is at archive", 5, both(remove("archive"), linkAt("archive")), 0, 0, text(size)},
		{"nothing is at archive", 5, remove("archive"), 0, 0, text(size)},
		{"it is another file", 2, both(remove("archive.new"), create("archive.new")), 0, 0, text(size)[512:]},
		{"bytes come between", 2, appendTo("archive.new", "between"), 0, 0, text(size)[:512] + "between" + text(size)[512:]},
		{"bytes come behind the Sync", 4, appendTo("archive.new", "behind"), 0, 0, text(size) + "behind"},
		{"archive is gone ahead of the last", 6, remove("archive"), 0, 0, "no file"},
	} {
		w := worldOf(t, api.Caps{}, filed("old"), nothing, true)
		s := Save(w, []byte(text(size)))
		for i := 0; i <= 8; i++ {
			if i == c.behind {
				ok(t, c.do(w))
			}
			what := fmt.Sprintf("%s behind step %d: step %d", c.what, c.behind, i+1)
			switch {
			case c.fails > 0 && i+1 >= c.fails:
				before := told(w)
				saves(t, what, s, false, c.err, api.SavedNo)
				want(t, what+": nothing is done", told(w), before)
			default:
				saves(t, what, s, i >= 6, api.OK, min(max(i-4, 0), 2))
			}
		}
		got, there := bytesAt(w, "archive")
		if !there {
			got = "no file"
		}
		want(t, c.what, got, c.holds)
	}
}

// No room for the name, or for the bytes: just enough, and one too few.
func TestP10_6NoRoom(t *testing.T) {
	for names, wanted := range map[int]api.Errno{1: api.ErrWorldFull, 2: api.OK} {
		w := worldOf(t, api.Caps{Names: [3]int{0, 0, names}}, filed("old"), nothing, true)
		s := Save(w, []byte("abc"))
		saves(t, "Create", s, false, wanted, api.SavedNo)
		for range 5 {
			s.Step()
		}
		saves(t, "at the end", s, wanted == api.OK, wanted, map[int]int{1: api.SavedNo, 2: api.SavedYes}[names])
		got, _ := bytesAt(w, "archive")
		want(t, "archive", got, map[int]string{1: "old", 2: "abc"}[names])
	}
	for _, size := range sizes {
		for room := max(size-1, 0); room <= size; room++ {
			w := worldOf(t, api.Caps{Bytes: [3]int{0, 0, 3 + room}}, filed("old"), nothing, true)
			n, fails := stepsOf(size), 0
			if room < size {
				fails = n - 4
			}
			s := Save(w, []byte(text(size)))
			for i := 1; i <= n; i++ {
				what := fmt.Sprintf("%d bytes, room for %d, step %d", size, room, i)
				if fails > 0 && i >= fails {
					saves(t, what, s, false, api.ErrWorldFull, api.SavedNo)
					continue
				}
				saves(t, what, s, i == n, api.OK, max(i-n+2, 0))
			}
			got, _ := bytesAt(w, "archive")
			want(t, fmt.Sprintf("%d bytes, room for %d", size, room), got == "old", fails > 0)
		}
	}
}

// Where: behind every step, and behind an error ahead of the Rename, of the Rename, of the last SyncVolume.
func TestP10_7Where(t *testing.T) {
	for _, size := range sizes {
		n := stepsOf(size)
		for failing := 0; failing <= n; failing++ { // 0: none
			w := worldOf(t, api.Caps{}, nothing, nothing, true)
			if failing > 0 {
				w.Rig(api.S, failing-1, 1, 0, false)
			}
			s := Save(w, []byte(text(size)))
			want(t, "ahead of the first", s.Where(), api.SavedNo)
			for i := 1; i <= n+2; i++ {
				s.Step()
				wanted := api.SavedNo
				switch {
				case failing == 0 && i >= n:
					wanted = api.SavedYes
				case i >= n-1 && (failing == 0 || failing == n):
					wanted = api.SavedPerhaps
				}
				want(t, fmt.Sprintf("%d bytes, call %d fails, behind step %d", size, failing, i), s.Where(), wanted)
			}
		}
	}
}
