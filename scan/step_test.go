package scan

import (
	"fmt"
	"slices"
	"strings"
	"testing"

	"twine/api"
	"twine/world"
)

// Files of all sizes: a step for each piece, one for a file of no bytes.
func TestP12_2Pieces(t *testing.T) {
	for _, size := range []int{0, 1, 2, 511, 512, 513, 600, 1023, 1024, 1025, 1536, 5000, 5120} {
		for mode := range 8 {
			w := worldOf(t, api.B, 5, fileAt("f", mode, text(size), 1, 1))
			s := New(w, api.B, ruled(t, ""), first(t))
			pieces := (size + 511) / 512
			what := fmt.Sprintf("%d bytes", size)
			wantText(t, what, toEnd(t, s), "/"+strings.Repeat(" /f", max(pieces, 1)))
			v, _ := s.Tree().At("f")
			want(t, what, v, api.Value{Kind: api.File, Mode: mode, Size: size, Sum: plainDigest([]byte(text(size)))})
			want(t, what+": Listed", s.Listed(), 1+pieces)
		}
	}
}

// A file is told of when all its pieces are read, and not ahead of that; each piece is counted as it is read.
func TestP12_2Between(t *testing.T) {
	w := worldOf(t, api.A, 5, fileAt("f", 6, text(1300), 1, 1), fileAt("g", 6, "", 2, 1))
	s := New(w, api.A, ruled(t, ""), first(t))
	for i, tree := range []string{"/ 1.8.0", "/ 1.7.0", "/ 1.7.0", "/ 1.7.0", "/ 1.7.0, /f 2.6.1300", "/ 1.7.0, /f 2.6.1300, /g 2.6.0"} {
		want(t, fmt.Sprintf("behind %d steps", i), brief(s.Tree()), tree)
		_, _, ok := s.Thing("f")
		want(t, fmt.Sprintf("behind %d steps: Thing", i), ok, i > 3)
		want(t, fmt.Sprintf("behind %d steps: Listed", i), s.Listed(), []int{0, 2, 3, 4, 5, 5}[i])
		want(t, "a step", s.Step(), i < 5)
	}
}

// Links: their targets' bytes, in one step, however long.
func TestP12_2Links(t *testing.T) {
	for _, size := range []int{1, 2, 511, 512, 513, 1024, 4095} {
		target := strings.ReplaceAll(text(size), "\x00", "/")
		w := worldOf(t, api.A, 5, linkAt("l", target, 1, 1))
		s := New(w, api.A, ruled(t, ""), first(t))
		wantText(t, "steps", toEnd(t, s), "/ /l")
		v, _ := s.Tree().At("l")
		want(t, "the link", v, api.Value{Kind: api.Link, Size: size, Sum: plainDigest([]byte(target))})
		want(t, "marks", marksOf(t, s, "l"), [2]api.Mark{})
		want(t, "Listed", s.Listed(), 1)
		_, _, ok := s.Thing("l")
		want(t, "Thing", ok, false)
	}
}

// Directories: their modes, the root's too.
func TestP12_2Directories(t *testing.T) {
	for mode := range 8 {
		w := worldOf(t, api.A, 5, dirAt("", mode, 1, 1), dirAt("d", 7-mode, 2, 1))
		s := New(w, api.A, ruled(t, ""), first(t))
		toEnd(t, s)
		want(t, "Tree", brief(s.Tree()), fmt.Sprintf("/ 1.%d.0, /d 1.%d.0", mode, 7-mode))
	}
}

// between: a volume in which much can be changed.
func between(t testing.TB) *world.World {
	return worldOf(t, api.A, 4,
		dirAt("d", 5, 1, 1), fileAt("d/f", 6, text(1300), 2, 1), dirAt("d/s", 7, 3, 1), fileAt("d/s/x", 7, text(20), 4, 1), linkAt("d/t", "to", 5, 1),
		fileAt("e", 6, text(1300), 6, 1), linkAt("l", "to", 7, 1))
}

// What is done between the steps. Steps there are: the root, d, d/f (3), d/s, d/s/x, d/t, e (3), l.
func TestP12_2Moved(t *testing.T) {
	edit := func(kind int, p, to, data string, mode int) api.Edit {
		return api.Edit{Kind: kind, Path: p, To: to, Data: []byte(data), Mode: mode}
	}
	other := strings.Repeat("z", 1300)
	for _, c := range []struct {
		what  string
		ahead int // steps, ahead of the edits
		edits []api.Edit
		lost  string
		gone  string // of the whole tree: these aren't told
		have  string // these are told otherwise
	}{
		{"removed ahead", 2, []api.Edit{edit(api.EditRemove, "d/f", "", "", 0)}, "", "/d/f", ""},
		{"renamed away ahead", 2, []api.Edit{edit(api.EditRename, "d/f", "z", "", 0)}, "", "/d/f", ""},
		{"its directory renamed", 2, []api.Edit{edit(api.EditRename, "d", "q", "", 0)}, "", "/d/f /d/s /d/s/x /d/t", ""},
		{"its directory renamed, ahead of its step", 1, []api.Edit{edit(api.EditRename, "d", "q", "", 0)}, "", "/d /d/f /d/s /d/s/x /d/t", ""},
		{"its directory is a file now", 2, []api.Edit{edit(api.EditRename, "d", "q", "", 0), edit(api.EditFile, "d", "", "", 1)}, "", "/d/f /d/s /d/s/x /d/t", ""},
		{"a directory is a file now", 1, []api.Edit{edit(api.EditRename, "d", "q", "", 0), edit(api.EditFile, "d", "", "ab", 1)}, "", "/d/f /d/s /d/s/x /d/t", "/d 2.1.2"},
		{"a directory is a link now", 1, []api.Edit{edit(api.EditRename, "d", "q", "", 0), edit(api.EditLink, "d", "abc", "", 1)}, "", "/d/f /d/s /d/s/x /d/t", "/d 3.0.3"},
		{"a file is a directory now", 2, []api.Edit{edit(api.EditRemove, "d/f", "", "", 0), edit(api.EditMkdir, "d/f", "", "", 1)}, "", "", "/d/f 1.1.0"},
		{"a file is a link now", 2, []api.Edit{edit(api.EditRemove, "d/f", "", "", 0), edit(api.EditLink, "d/f", "abc", "", 1)}, "", "", "/d/f 3.0.3"},
		{"put anew ahead", 2, []api.Edit{edit(api.EditRemove, "d/f", "", "", 0), edit(api.EditFile, "d/f", "", "new", 1)}, "", "", "/d/f 2.1.3"},
		{"written ahead", 2, []api.Edit{edit(api.EditWrite, "d/f", "", "new", 1)}, "", "", "/d/f 2.6.3"},

		{"appended between", 3, []api.Edit{edit(api.EditAppend, "d/f", "", "y", 0)}, "/d/f 120", "/d/f", ""},
		{"appended ahead of the last", 4, []api.Edit{edit(api.EditAppend, "d/f", "", "y", 0)}, "/d/f 120", "/d/f", ""},
		{"appended behind the last", 5, []api.Edit{edit(api.EditAppend, "d/f", "", "y", 0)}, "", "", ""},
		{"no bytes appended", 3, []api.Edit{edit(api.EditAppend, "d/f", "", "", 0)}, "", "", ""},
		{"synced between", 3, []api.Edit{edit(api.EditSync, "d/f", "", "", 0), {Kind: api.EditSettle}}, "", "", ""},
		{"shortened between", 3, []api.Edit{edit(api.EditWrite, "d/f", "", "y", 0)}, "/d/f 120", "/d/f", ""},
		{"shortened to what was read", 3, []api.Edit{edit(api.EditWrite, "d/f", "", text(512), 0)}, "/d/f 120", "/d/f", ""},
		{"shortened in the last piece", 4, []api.Edit{edit(api.EditWrite, "d/f", "", text(1299), 0)}, "/d/f 120", "/d/f", ""},
		{"written between", 3, []api.Edit{edit(api.EditWrite, "d/f", "", other, 0)}, "/d/f 120", "/d/f", ""},
		{"the same written between", 4, []api.Edit{edit(api.EditWrite, "d/f", "", text(1300), 0)}, "/d/f 120", "/d/f", ""},
		{"its mode between", 3, []api.Edit{edit(api.EditChmod, "d/f", "", "", 6)}, "/d/f 120", "/d/f", ""},
		{"removed between", 3, []api.Edit{edit(api.EditRemove, "d/f", "", "", 0)}, "/d/f 120", "/d/f", ""},
		{"removed ahead of the last", 4, []api.Edit{edit(api.EditRemove, "d/f", "", "", 0)}, "/d/f 120", "/d/f", ""},
		{"removed behind the last", 5, []api.Edit{edit(api.EditRemove, "d/f", "", "", 0)}, "", "", ""},
		{"put anew between", 3, []api.Edit{edit(api.EditRemove, "d/f", "", "", 0), edit(api.EditFile, "d/f", "", text(1300), 6)}, "/d/f 120", "/d/f", ""},
		{"a directory between", 3, []api.Edit{edit(api.EditRemove, "d/f", "", "", 0), edit(api.EditMkdir, "d/f", "", "", 6)}, "/d/f 120", "/d/f", ""},
		{"a link between", 4, []api.Edit{edit(api.EditRemove, "d/f", "", "", 0), edit(api.EditLink, "d/f", "to", "", 6)}, "/d/f 120", "/d/f", ""},
		{"renamed over between", 3, []api.Edit{edit(api.EditRename, "e", "d/f", "", 0)}, "/d/f 120", "/d/f /e", ""},
		{"exchanged between", 3, []api.Edit{edit(api.EditExchange, "e", "d/f", "", 0)}, "/d/f 120", "/d/f", ""},
		{"exchanged there and back", 3, []api.Edit{edit(api.EditExchange, "e", "d/f", "", 0), edit(api.EditExchange, "e", "d/f", "", 0)}, "", "", ""},
		{"renamed there and back", 4, []api.Edit{edit(api.EditRename, "d/f", "z", "", 0), edit(api.EditRename, "z", "d/f", "", 0)}, "", "", ""},
		{"renamed over behind", 5, []api.Edit{edit(api.EditRename, "e", "d/f", "", 0)}, "", "/e", ""},
		{"its directory renamed between", 3, []api.Edit{edit(api.EditRename, "d", "q", "", 0)}, "/d/f 120", "/d/f /d/s /d/s/x /d/t", ""},
		{"its directory is a link between", 4, []api.Edit{edit(api.EditRename, "d", "q", "", 0), edit(api.EditLink, "d", "q", "", 0)}, "/d/f 120", "/d/f /d/s /d/s/x /d/t", ""},
		{"its directory there and back", 3, []api.Edit{edit(api.EditRename, "d", "q", "", 0), edit(api.EditRename, "q", "d", "", 0)}, "", "", ""},
		{"its directory's mode", 3, []api.Edit{edit(api.EditChmod, "d", "", "", 0)}, "", "", ""},
		{"another file", 3, []api.Edit{edit(api.EditAppend, "d/s/x", "", "y", 0)}, "", "", "/d/s/x 2.7.21"},
		{"in the root", 9, []api.Edit{edit(api.EditRemove, "e", "", "", 0)}, "/e 120", "/e", ""},
		{"a link's target", 8, []api.Edit{edit(api.EditRemove, "l", "", "", 0), edit(api.EditLink, "l", "other", "", 0)}, "", "", "/l 3.0.5"},
		{"a link, removed", 8, []api.Edit{edit(api.EditRemove, "l", "", "", 0)}, "", "/l", ""},
	} {
		w := between(t)
		model := newPlain(w.Copy(), api.A, ruled(t, ""), first(t))
		s := New(w, api.A, ruled(t, ""), first(t))
		for range c.ahead {
			s.Step()
			model.step()
		}
		for _, e := range c.edits {
			wantOK(t, c.what, w.Edit(api.A, e))
			wantOK(t, c.what, model.w.Edit(api.A, e))
		}
		for s.Step() {
			model.step()
			held(t, c.what, s, w, model)
		}
		want(t, c.what+": Lost", lostText(s), c.lost)
		wantText(t, c.what+": Tree", brief(s.Tree()), otherwise(c.gone, c.have))
	}
}

// otherwise: the tree of between, without some paths, and with others.
func otherwise(gone, have string) string {
	var l []string
	for _, x := range strings.Split("/ 1.7.0, /d 1.5.0, /d/f 2.6.1300, /d/s 1.7.0, /d/s/x 2.7.20, /d/t 3.0.2, /e 2.6.1300, /l 3.0.2", ", ") {
		p, _, _ := strings.Cut(x, " ")
		q, _, _ := strings.Cut(have, " ")
		switch {
		case p == q:
			l = append(l, have)
		case !slices.Contains(strings.Fields(gone), p):
			l = append(l, x)
		}
	}
	return strings.Join(l, ", ")
}

// Where the clock stands at the file's stamp a change isn't seen by the stamp: the number and the size alone tell of it. (The mode is the one of the first step.)
func TestP12_2SameMoment(t *testing.T) {
	for _, c := range []struct {
		what string
		e    api.Edit
		lost string
	}{
		{"mode", api.Edit{Kind: api.EditChmod, Path: "f", Mode: 1}, ""},
		{"the same size", api.Edit{Kind: api.EditWrite, Path: "f", Data: []byte(strings.Repeat("z", 1300))}, ""},
		{"shorter", api.Edit{Kind: api.EditWrite, Path: "f", Data: []byte(strings.Repeat("z", 1299))}, "/f 120"},
		{"longer", api.Edit{Kind: api.EditAppend, Path: "f", Data: []byte("z")}, "/f 120"},
		{"another one", api.Edit{Kind: api.EditRename, Path: "g", To: "f"}, "/f 120"},
	} {
		w := worldOf(t, api.A, 4, fileAt("f", 6, text(1300), 1, 4), fileAt("g", 6, text(1300), 2, 4))
		s := New(w, api.A, ruled(t, ""), first(t))
		s.Step()
		s.Step()
		wantOK(t, c.what, w.Edit(api.A, c.e))
		s.Step()
		s.Step()
		want(t, c.what+": Lost", lostText(s), c.lost)
		if c.lost != "" {
			continue
		}
		x, _ := found(w, api.A, "f")
		v, _ := s.Tree().At("f")
		want(t, c.what, v, api.Value{Kind: api.File, Mode: 6, Size: 1300, Sum: plainDigest(append([]byte(text(512)), x.Data[512:]...))})
		want(t, c.what, marksOf(t, s, "f"), [2]api.Mark{})
	}
}

// Every call that a rig can make fail, once or from there on: what is lost by it, and with which error.
func TestP12_2Faults(t *testing.T) {
	calls := 2 + 2 + 5 + 2 + 2 + 2 + 5 + 2
	for _, v := range []int{api.A, api.B} {
		for after := range calls + 1 {
			for _, lasting := range []int{1, 2, 3, 99} {
				w := between(t)
				if v == api.B {
					w = worldOf(t, api.B, 4, w.Image(api.A)...)
				}
				w.Rig(v, after, lasting, 0, true)
				model := newPlain(w.Copy(), v, ruled(t, "skip x"), first(t))
				s := New(w, v, ruled(t, "skip x"), first(t))
				what := fmt.Sprintf("volume %d, %d calls behind %d", v, lasting, after)
				for s.Step() {
					want(t, what, model.step(), true)
					held(t, what, s, w, model)
				}
				want(t, what, model.step(), false)
			}
		}
	}
}

// A few of these, written out. The calls of between: Stat, List (the root); Stat, List (d); Stat, Read, Read, Read, Stat (d/f); Stat, List (d/s); Stat, Read (d/s/x); Stat, Target (d/t); Stat, Read, Read, Read, Stat (e); Stat, Target (l).
func TestP12_2FaultsByHand(t *testing.T) {
	for _, c := range []struct {
		after, calls int
		lost, steps  string
	}{
		{0, 1, "/ 92", "/"},
		{1, 1, "/ 92", "/"},
		{2, 1, "/d 92", "/ /d /e /e /e /l"},
		{3, 1, "/d 92", "/ /d /e /e /e /l"},
		{4, 1, "/d/f 92", "/ /d /d/f /d/s /d/s/x /d/t /e /e /e /l"},
		{5, 1, "/d/f 92", "/ /d /d/f /d/s /d/s/x /d/t /e /e /e /l"},
		{6, 1, "/d/f 92", "/ /d /d/f /d/f /d/s /d/s/x /d/t /e /e /e /l"},
		{8, 1, "/d/f 92", "/ /d /d/f /d/f /d/f /d/s /d/s/x /d/t /e /e /e /l"},
		{9, 1, "/d/s 92", "/ /d /d/f /d/f /d/f /d/s /d/t /e /e /e /l"},
		{13, 1, "/d/t 92", "/ /d /d/f /d/f /d/f /d/s /d/s/x /d/t /e /e /e /l"},
		{14, 1, "/d/t 92", "/ /d /d/f /d/f /d/f /d/s /d/s/x /d/t /e /e /e /l"},
		{21, 9, "/l 92", "/ /d /d/f /d/f /d/f /d/s /d/s/x /d/t /e /e /e /l"},
		{22, 9, "", "/ /d /d/f /d/f /d/f /d/s /d/s/x /d/t /e /e /e /l"},
		{8, 99, "/d/f 92, /d/s 92, /d/t 92, /e 92, /l 92", "/ /d /d/f /d/f /d/f /d/s /d/t /e /l"},
	} {
		w := between(t)
		w.Rig(api.A, c.after, c.calls, 0, true)
		s := New(w, api.A, ruled(t, ""), first(t))
		what := fmt.Sprintf("%d calls behind %d", c.calls, c.after)
		wantText(t, what, toEnd(t, s), c.steps)
		wantText(t, what, lostText(s), c.lost)
	}
}

// A fall between two steps: what was read of a file that loses bytes by it isn't told.
func TestP12_2Fall(t *testing.T) {
	for _, c := range []struct {
		keep int
		lost string
	}{{0, "/f 120"}, {600, "/f 120"}, {1299, "/f 120"}, {1300, ""}} {
		w := worldOf(t, api.A, 4, fileAt("f", 6, text(1300), 1, 1))
		s := New(w, api.A, ruled(t, ""), first(t))
		s.Step()
		s.Step()
		w.Fall([3]int{}, [3][]int{{c.keep}})
		toEnd(t, s)
		want(t, fmt.Sprintf("%d bytes", c.keep), lostText(s), c.lost)
	}
}

// A scan changes nothing: not one call that changes is made.
func TestP12_2ChangesNothing(t *testing.T) {
	for v := range 3 {
		w := worldOf(t, v, 4, between(t).Image(api.A)...)
		for x := range 3 {
			w.Rig(x, 0, 1, 0, false)
		}
		before := tellWorld(w)
		s := New(w, v, ruled(t, "skip x"), first(t))
		toEnd(t, s)
		want(t, "Lost", lostText(s), "")
		wantText(t, "the world", tellWorld(w), before)
	}
}
