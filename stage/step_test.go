package stage

import (
	"fmt"
	"strings"
	"testing"

	"twine/api"
	"twine/world"
)

// kinds: a directory with one thing of each other kind.
func kinds() (api.Node, map[string]string) {
	n := dir("", 5, filed("f", 6, text(600)), link("l", "to"), filed("o", 4, ""))
	return n, map[string]string{"f": text(600), "l": "to"}
}

func kindsStage(t testing.TB) (*world.World, *Stage) {
	n, data := kinds()
	w := begun(t, "d", n, data)
	return w, New(w, api.A, api.B, "d", ".twine/1", treeOf(t, n))
}

// What each call of the target leaves behind that fails: all ahead of it is done, nothing behind it, neither of the target nor of the source.
func TestP16_3TargetCallsInOrder(t *testing.T) {
	d, f, l := "1 1.5.0.0", ", 1/f 2.6.600.600", ", 1/l 3.0.2.0"
	for k, c := range []struct {
		call  string
		steps int // that went well
		reads int // of the source
		there string
	}{
		{"Mkdir", 0, 0, ""},
		{"Chmod of the directory", 0, 0, "1 1.7.0.0"},
		{"Create", 1, 1, d},
		{"the first Append", 1, 2, d + ", 1/f 2.7.0.0"},
		{"the second Append", 2, 3, d + ", 1/f 2.7.512.0"},
		{"Sync", 2, 3, d + ", 1/f 2.7.600.0"},
		{"Chmod of the file", 2, 3, d + ", 1/f 2.7.600.600"},
		{"Link", 3, 4, d + f},
		{"Create of an empty file", 4, 5, d + f + l},
		{"its Sync", 4, 5, d + f + l + ", 1/o 2.7.0.0"},
		{"its Chmod", 4, 5, d + f + l + ", 1/o 2.7.0.0"},
	} {
		w, s := kindsStage(t)
		counted(w, api.A)
		w.Rig(api.B, k, 3, 0, false)
		steps, did, e := run(s)
		want(t, c.call+": steps", steps, c.steps)
		want(t, c.call+": did", did, api.DidFailed)
		want(t, c.call+": error", e, api.ErrWorldFault)
		want(t, c.call+": what is staged", staged(w), c.there)
		want(t, c.call+": the source's calls", made(w, api.A), [2]int{0, c.reads})
		want(t, c.call+": no call behind it", strings.TrimRight(rigged(w, api.B, false), "."), "xx")
		isOver(t, c.call, s, w)
	}
	w, s := kindsStage(t)
	counted(w, api.A)
	counted(w, api.B)
	steps, did, e := run(s)
	want(t, "none: steps", steps, 5)
	want(t, "none: did", did, api.DidNothing)
	want(t, "none: error", e, api.OK)
	want(t, "none: the source's calls", made(w, api.A), [2]int{0, 5})
	want(t, "none: the target's calls", made(w, api.B), [2]int{11, 0})
}

// The same of the source's calls.
func TestP16_3SourceCallsInOrder(t *testing.T) {
	d, f, l := "1 1.5.0.0", ", 1/f 2.6.600.600", ", 1/l 3.0.2.0"
	for k, c := range []struct {
		call  string
		steps int // that went well
		calls int // of the target
		there string
	}{
		{"Stat", 1, 2, d},
		{"the first Read", 1, 3, d + ", 1/f 2.7.0.0"},
		{"the second Read", 2, 4, d + ", 1/f 2.7.512.0"},
		{"Target", 3, 7, d + f},
		{"Stat of an empty file", 4, 8, d + f + l},
	} {
		w, s := kindsStage(t)
		counted(w, api.B)
		w.Rig(api.A, k, 3, 0, true)
		steps, did, e := run(s)
		want(t, c.call+": steps", steps, c.steps)
		want(t, c.call+": did", did, api.DidFailed)
		want(t, c.call+": error", e, api.ErrWorldFault)
		want(t, c.call+": what is staged", staged(w), c.there)
		want(t, c.call+": the target's calls", made(w, api.B), [2]int{c.calls, 0})
		want(t, c.call+": no call behind it", strings.TrimRight(rigged(w, api.A, true), "."), "xx")
		isOver(t, c.call, s, w)
	}
}

// How many calls a step makes, of the source and of the target.
func TestP16_3CallsOfAStep(t *testing.T) {
	n := dir("", 5, filed("f", 6, text(1025)), filed("g", 6, text(512)), link("l", "to"), filed("o", 4, ""))
	w := begun(t, "d", n, map[string]string{"f": text(1025), "g": text(512), "l": "to"})
	s := New(w, api.A, api.B, "d", ".twine/1", treeOf(t, n))
	for i, c := range []struct{ reads, changes int }{
		{0, 2},         // Mkdir, Chmod
		{2, 2},         // Stat, Create, Read, Append
		{1, 1},         // Read, Append
		{1, 3},         // Read, Append, Sync, Chmod
		{2, 4},         // Stat, Create, Read, Append, Sync, Chmod
		{1, 1},         // Target, Link
		{1, 3}, {0, 0}, // Stat, Create, Sync, Chmod; nothing
	} {
		for v := range 3 {
			counted(w, v)
		}
		s.Step()
		what := fmt.Sprintf("step %d: ", i)
		want(t, what+"A", made(w, api.A), [2]int{0, c.reads})
		want(t, what+"B", made(w, api.B), [2]int{c.changes, 0})
		want(t, what+"S", made(w, api.S), [2]int{0, 0})
	}
}

// An Append that fails may have laid a part, which stays.
func TestP16_3PartOfAnAppend(t *testing.T) {
	for _, c := range []struct {
		after, part int
		there       string
	}{
		{3, 100, "1/f 2.7.100.0"}, {3, 512, "1/f 2.7.512.0"}, {3, 9999, "1/f 2.7.512.0"}, {3, -1, "1/f 2.7.0.0"},
		{4, 1, "1/f 2.7.513.0"}, {4, 88, "1/f 2.7.600.0"},
	} {
		w, s := kindsStage(t)
		w.Rig(api.B, c.after, 1, c.part, false)
		_, did, e := run(s)
		want(t, "did", did, api.DidFailed)
		want(t, "error", e, api.ErrWorldFault)
		want(t, "what is staged", staged(w), "1 1.5.0.0, "+c.there)
		isOver(t, "behind it", s, w)
	}
}

// Full volumes: what had room is made.
func TestP16_3Full(t *testing.T) {
	n, data := kinds()
	d, f := "1 1.5.0.0", ", 1/f 2.6.600.600"
	for _, c := range []struct {
		what  string
		caps  api.Caps
		steps int
		there string
	}{
		{"no name", api.Caps{Names: [3]int{0, 1, 0}}, 0, ""},
		{"one name", api.Caps{Names: [3]int{0, 2, 0}}, 1, d},
		{"two names", api.Caps{Names: [3]int{0, 3, 0}}, 3, d + f},
		{"three names", api.Caps{Names: [3]int{0, 4, 0}}, 4, d + f + ", 1/l 3.0.2.0"},
		{"one byte", api.Caps{Bytes: [3]int{0, 1, 0}}, 1, d + ", 1/f 2.7.0.0"},
		{"511 bytes", api.Caps{Bytes: [3]int{0, 511, 0}}, 1, d + ", 1/f 2.7.0.0"},
		{"512 bytes", api.Caps{Bytes: [3]int{0, 512, 0}}, 2, d + ", 1/f 2.7.512.0"},
		{"599 bytes", api.Caps{Bytes: [3]int{0, 599, 0}}, 2, d + ", 1/f 2.7.512.0"},
	} {
		w := worldOf(t, c.caps, begun(t, "d", n, data).Image(api.A)...)
		s := New(w, api.A, api.B, "d", ".twine/1", treeOf(t, n))
		steps, did, e := run(s)
		want(t, c.what+": steps", steps, c.steps)
		want(t, c.what+": did", did, api.DidFailed)
		want(t, c.what+": error", e, api.ErrWorldFull)
		want(t, c.what+": what is staged", staged(w), c.there)
		isOver(t, c.what, s, w)
	}
	w := worldOf(t, api.Caps{Names: [3]int{0, 5, 0}, Bytes: [3]int{0, 600, 0}}, begun(t, "d", n, data).Image(api.A)...)
	steps, did, _ := run(New(w, api.A, api.B, "d", ".twine/1", treeOf(t, n)))
	want(t, "just enough: steps", steps, 5)
	want(t, "just enough: did", did, api.DidNothing)
}

// A file's mode comes last, a directory's ahead of what is in it: a mode of no rights stops nothing.
func TestP16_3Modes(t *testing.T) {
	for mode := range 8 {
		n := dir("", mode, dir("d", 7-mode, filed("g", mode, "x")), filed("f", mode, text(513)))
		w := begun(t, "s", n, map[string]string{"d/g": "x", "f": text(513)})
		s := New(w, api.A, api.B, "s", ".twine/1", treeOf(t, n))
		steps, did, e := run(s)
		want(t, "steps", steps, 5)
		want(t, "did", did, api.DidNothing)
		want(t, "error", e, api.OK)
		wantText(t, "what is staged", pictured(w, api.B, ".twine/1"), values(treeOf(t, n)))
	}
}

// A mode that is unknown: the thing is made, with all its bytes, and stays with mode 7.
func TestP16_3UnknownMode(t *testing.T) {
	for _, c := range []struct {
		n     api.Node
		data  string
		steps int
		there string
	}{
		{dir("", 8), "", 0, "1 1.7.0.0"},
		{dir("", 8, filed("f", 6, "")), "", 0, "1 1.7.0.0"},
		{filed("", 8, ""), "", 0, "1 2.7.0.0"},
		{filed("", 8, text(512)), text(512), 0, "1 2.7.512.512"},
		{filed("", 8, text(600)), text(600), 1, "1 2.7.600.600"},
	} {
		known := c.n
		known.Value.Mode = 6
		w := begun(t, "x", known, map[string]string{"": c.data})
		s := New(w, api.A, api.B, "x", ".twine/1", treeOf(t, c.n))
		steps, did, e := run(s)
		want(t, "steps", steps, c.steps)
		want(t, "did", did, api.DidFailed)
		want(t, "error", e, api.ErrWorldMode)
		want(t, "what is staged", staged(w), c.there)
		isOver(t, "behind it", s, w)
	}
	// Behind a digest that isn't right nothing is asked of the mode.
	w := begun(t, "x", filed("", 6, "abc"), map[string]string{"": "abc"})
	does(t, "other bytes, and an unknown mode", New(w, api.A, api.B, "x", ".twine/1", treeOf(t, filed("", 8, "abd"))), api.DidOvertaken, api.ErrStageOther)
	want(t, "what is staged", staged(w), "1 2.7.3.0")
}

// What is made has new numbers, in the order of the calls, and the clock's time as its stamp.
func TestP16_3NumbersAndStamps(t *testing.T) {
	w, s := kindsStage(t)
	last := 0
	for v := range 3 {
		for _, x := range w.Image(v) {
			last = max(last, x.Number)
		}
	}
	for range 5 {
		w.Tick()
		does(t, "a step", s, api.DidStage, api.OK)
	}
	for i, x := range w.Image(api.B)[2:] { // behind the root and `.twine`
		want(t, x.Path+": number", x.Number, last+1+i)
		want(t, x.Path+": stamp", x.Stamp, []int{4, 6, 7, 8}[i])
	}
}
