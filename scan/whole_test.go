package scan

import (
	"fmt"
	"math/rand"
	"slices"
	"strings"
	"testing"

	"twine/api"
	"twine/rules"
	"twine/tree"
	"twine/world"
)

// pictured: a volume's values by its picture, a line a path, without what the rules let be and the staging place.
func pictured(w *world.World, v int, r *rules.Rules) string {
	var out strings.Builder
	for _, x := range w.Image(v) {
		if !r.Skip(x.Path) && x.Path != ".twine" && !strings.HasPrefix(x.Path, ".twine/") {
			out.WriteString(lineOf(x.Path, valueOf(x), [2]api.Mark{}))
		}
	}
	return out.String()
}

// unmarked: a tree without marks.
func unmarked(t *testing.T, x *tree.Tree) *tree.Tree {
	t.Helper()
	for p, v := range x.All() {
		y, e := x.Set(p, v, [2]api.Mark{})
		wantOK(t, "Set", e)
		x = y
	}
	return x
}

// history: what scans of a world noted last, for A's files and for B's.
type history struct {
	u     author
	w     *world.World
	r     *rules.Rules
	noted *tree.Tree
}

func begun(t *testing.T, seed int) *history {
	u := author{rand.New(rand.NewSource(int64(seed)))}
	return &history{u, u.world(t), u.rules(t), first(t)}
}

// live: users edit, the clock ticks, the power falls.
func (h *history) live() {
	for range h.u.r.Intn(6) {
		v := h.u.r.Intn(2)
		switch n := h.u.r.Intn(24); {
		case n < 16:
			h.w.Edit(v, h.u.edit(h.w, v))
		case n < 23:
			h.w.Tick()
		default:
			keep := []int{h.u.r.Intn(700), h.u.r.Intn(3)}
			h.w.Fall([3]int{h.u.r.Intn(4), h.u.r.Intn(4)}, [3][]int{keep, keep})
		}
	}
}

// note: an archive's tree by two scans: A's, with B's marks too where a file is the same on both sides.
func (h *history) note(a, b *tree.Tree) {
	x := a
	for p, v := range a.All() {
		one, _ := a.Sub(p)
		other, ok := b.Sub(p)
		if ok && v.Kind == api.File && other.Value() == v {
			x, _ = x.Set(p, v, [2]api.Mark{one.Marks()[0], other.Marks()[1]})
		}
	}
	h.noted = x
}

// Nobody changes the volume: the tree is the volume's, nothing is lost, and there are as many steps as is said; without marks, and with such as scans noted.
func TestP12_6WhatIsThere(t *testing.T) {
	quick := 0
	for seed := range 100 {
		h := begun(t, seed)
		for range 4 {
			h.live()
			var seen [2]*tree.Tree
			for v := range 3 {
				for _, o := range []*tree.Tree{h.noted, unmarked(t, h.noted), first(t)} {
					before := tellWorld(h.w)
					s, u := New(h.w, v, h.r, o), New(h.w, v, h.r, o)
					steps := len(strings.Fields(strings.ReplaceAll(toEnd(t, s), "longer name", "n")))
					what := fmt.Sprintf("history %d, volume %d", seed, v)
					wantText(t, what, values(s.Tree()), pictured(h.w, v, h.r))
					want(t, what+": Lost", lostText(s), "")
					want(t, what+": Run", u.Run(NewCancel(-1), 3), steps)
					wantText(t, what+": Run", flat(u.Tree()), flat(s.Tree()))
					wantText(t, what+": the world", tellWorld(h.w), before)
					all := 0
					for p, x := range s.Tree().All() {
						all++
						_, q, _ := s.Thing(p)
						if x.Kind == api.File && !q {
							all += max((x.Size+511)/512-1, 0)
						}
						if q {
							quick++
						}
					}
					want(t, what+": steps", steps, all)
					if v < 2 {
						seen[v] = s.Tree()
					}
				}
			}
			h.note(seen[0], seen[1])
		}
	}
	if quick < 200 {
		t.Errorf("but %d quick files", quick)
	}
}

// ahead of a step at a path: what stands there, and the time.
type eve struct {
	thing api.Thing
	clock int
}

// watch does a scan's steps while users go on, and holds each value that is told against what the volume has in that very step.
func (h *history) watch(t *testing.T, v int, what string) (*Scan, int, int) {
	s := New(h.w, v, h.r, h.noted)
	var begin eve
	steps, quick, read := 0, 0, 0
	for last := ""; ; {
		p, ok := s.Next()
		if !ok {
			break
		}
		if h.u.r.Intn(2) == 0 {
			h.live()
		}
		if steps == 0 || p != last {
			x, _ := found(h.w, v, p)
			begin = eve{x, h.w.Clock()}
		}
		last = p
		s.Step()
		steps++
		if q, _ := s.Next(); q == p && q != "" {
			continue // it isn't done
		}
		told, ok := s.Tree().At(p)
		if !ok || lostAt(s, p) {
			continue
		}
		x, there := found(h.w, v, p)
		want(t, what+": it is there", there, true)
		_, q, _ := s.Thing(p)
		if !q && x.Kind == api.File && len(x.Data) > 512 && begin.thing.Stamp >= begin.clock {
			continue // nothing is promised
		}
		if got, wanted := lineOf(p, told, [2]api.Mark{}), lineOf(p, valueOf(x), [2]api.Mark{}); got != wanted {
			t.Fatalf("%s: told %s, there is %s", what, got, wanted)
		}
		if q {
			quick++
		} else if x.Kind == api.File && len(x.Data) > 512 {
			read++
		}
	}
	want(t, what+": lost ones are told", slices.ContainsFunc(s.Lost(), func(x api.Lost) bool { _, ok := s.Tree().At(x.Path); return ok && x.Path != "" }), false)
	if steps > 1+s.Listed() {
		t.Errorf("%s: %d steps, Listed %d", what, steps, s.Listed())
	}
	return s, quick, read
}

func lostAt(s *Scan, p string) bool {
	return slices.ContainsFunc(s.Lost(), func(x api.Lost) bool { return x.Path == p })
}

// Whatever is done between the steps: what is told stood there in that step, the quick ones too (P22.13), as marks of one scan are handed on to the next.
func TestP12_7WhatStoodThere(t *testing.T) {
	quick, read := 0, 0
	for seed := range 400 {
		h := begun(t, 1000+seed)
		for round := range 6 {
			h.live()
			if h.u.r.Intn(5) == 0 {
				h.w.Rig(h.u.r.Intn(2), h.u.r.Intn(12), 1+h.u.r.Intn(2), 0, true)
			}
			what := fmt.Sprintf("history %d, round %d", seed, round)
			a, q, n := h.watch(t, api.A, what+", A")
			b, k, m := h.watch(t, api.B, what+", B")
			quick, read = quick+q+k, read+n+m
			h.note(a.Tree(), b.Tree())
		}
	}
	if quick < 800 || read < 500 {
		t.Errorf("but %d quick files, %d that were read in several steps", quick, read)
	}
}

// With marks that scans noted, and without them, scans of the same moment tell the same.
func TestP12_8WithMarksAndWithout(t *testing.T) {
	quick, changed := 0, 0
	for seed := range 300 {
		h := begun(t, 2000+seed)
		for round := range 5 {
			h.live()
			what := fmt.Sprintf("history %d, round %d", seed, round)
			var seen [2]*tree.Tree
			for v := range 2 {
				with, without := New(h.w, v, h.r, h.noted), New(h.w, v, h.r, unmarked(t, h.noted))
				toEnd(t, with)
				toEnd(t, without)
				wantText(t, what, values(with.Tree()), values(without.Tree()))
				want(t, what+": Same", tree.Same(with.Tree(), without.Tree(), false), true)
				want(t, what+": Held", strings.Join(with.Held(), " "), strings.Join(without.Held(), " "))
				seen[v] = with.Tree()
				for p, x := range with.Tree().All() {
					if _, q, _ := with.Thing(p); q {
						quick++
						_, q, _ = without.Thing(p)
						want(t, what+": quick without a mark", q, false)
					} else if old, ok := h.noted.At(p); ok && x.Kind == api.File && old != x {
						changed++
					}
				}
			}
			h.note(seen[0], seen[1])
		}
	}
	if quick < 500 || changed < 200 {
		t.Errorf("but %d quick files, %d changed ones", quick, changed)
	}
}

// What a mark is to be trusted for: everything that a user can do to a file behind a scan is seen by the next one, in the same moment and later.
func TestP22_13QuickIsRight(t *testing.T) {
	do := map[string][]api.Edit{
		"nothing":              {},
		"the same size":        {{Kind: api.EditWrite, Path: "f", Data: []byte("xyz")}},
		"the same bytes":       {{Kind: api.EditWrite, Path: "f", Data: []byte("abc")}},
		"there and back":       {{Kind: api.EditWrite, Path: "f", Data: []byte("xyz")}, {Kind: api.EditWrite, Path: "f", Data: []byte("abc")}},
		"appended":             {{Kind: api.EditAppend, Path: "f", Data: []byte("d")}},
		"the mode":             {{Kind: api.EditChmod, Path: "f", Mode: 1}},
		"the mode and back":    {{Kind: api.EditChmod, Path: "f", Mode: 1}, {Kind: api.EditChmod, Path: "f", Mode: 6}},
		"another file":         {{Kind: api.EditRename, Path: "g", To: "f"}},
		"exchanged":            {{Kind: api.EditExchange, Path: "g", To: "f"}},
		"exchanged, written":   {{Kind: api.EditExchange, Path: "g", To: "f"}, {Kind: api.EditWrite, Path: "f", Data: []byte("abc")}},
		"put anew":             {{Kind: api.EditRemove, Path: "f"}, {Kind: api.EditFile, Path: "f", Data: []byte("xyz"), Mode: 6}},
		"put anew as it was":   {{Kind: api.EditRemove, Path: "f"}, {Kind: api.EditFile, Path: "f", Data: []byte("abc"), Mode: 6}},
		"away, written, back":  {{Kind: api.EditRename, Path: "f", To: "h"}, {Kind: api.EditWrite, Path: "h", Data: []byte("xyz")}, {Kind: api.EditRename, Path: "h", To: "f"}},
		"a directory's place":  {{Kind: api.EditRemove, Path: "f"}, {Kind: api.EditMkdir, Path: "f", Mode: 6}},
		"a link's place":       {{Kind: api.EditRemove, Path: "f"}, {Kind: api.EditLink, Path: "f", To: "abc"}},
		"shorter":              {{Kind: api.EditWrite, Path: "f", Data: []byte("ab")}},
		"no bytes, then bytes": {{Kind: api.EditWrite, Path: "f"}, {Kind: api.EditAppend, Path: "f", Data: []byte("xyz")}},
	}
	trusted := 0
	for what, edits := range do {
		for _, ticks := range [][3]int{{0, 0, 0}, {1, 0, 0}, {0, 1, 0}, {0, 0, 1}, {1, 1, 1}, {0, 1, 1}} { // ahead of the scan, behind it, behind the edits
			for _, fall := range []bool{false, true} {
				w := worldOf(t, api.A, 5, fileAt("g", 6, "xyz", 1, 5))
				wantOK(t, what, w.Edit(api.A, api.Edit{Kind: api.EditFile, Path: "f", Data: []byte("abc"), Mode: 6}))
				wait(w, ticks[0])
				s := New(w, api.A, ruled(t, ""), first(t))
				toEnd(t, s)
				wait(w, ticks[1])
				for _, e := range edits {
					wantOK(t, what, w.Edit(api.A, e))
				}
				wait(w, ticks[2])
				if fall {
					w.Fall([3]int{9}, [3][]int{{9, 2}})
				}
				u := New(w, api.A, ruled(t, ""), s.Tree())
				toEnd(t, u)
				wantText(t, fmt.Sprint(what, ticks, fall), values(u.Tree()), pictured(w, api.A, rules.None()))
				for _, p := range []string{"f", "g"} {
					if _, q, _ := u.Thing(p); q {
						trusted++
					}
				}
			}
		}
	}
	if trusted < 30 {
		t.Errorf("but %d are taken by their marks", trusted)
	}
}

func wait(w *world.World, ticks int) {
	for range ticks {
		w.Tick()
	}
}

// The same by long histories: of each quick file the size and the digest are those that it has in that step.
func TestP22_13Histories(t *testing.T) {
	quick := 0
	for seed := range 300 {
		h := begun(t, 5000+seed)
		for round := range 8 {
			h.live()
			var seen [2]*tree.Tree
			for v := range 2 {
				s := New(h.w, v, h.r, h.noted)
				for p, ok := s.Next(); ok; p, ok = s.Next() {
					s.Step()
					if m, q, _ := s.Thing(p); q {
						quick++
						x, _ := found(h.w, v, p)
						told, _ := s.Tree().At(p)
						want(t, fmt.Sprintf("history %d, round %d: %q", seed, round, p), told, valueOf(x))
						want(t, "its number and stamp", m, api.Mark{Number: x.Number, Stamp: x.Stamp})
					}
					if h.u.r.Intn(4) == 0 {
						h.live()
					}
				}
				seen[v] = s.Tree()
			}
			h.note(seen[0], seen[1])
		}
	}
	if quick < 1000 {
		t.Errorf("but %d quick files", quick)
	}
}
