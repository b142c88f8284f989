package stage

import (
	"strings"
	"testing"

	"twine/api"
	"twine/world"
)

// exampled: the chapter's volume A, and `.twine` in B.
func exampled(t testing.TB) *world.World {
	return worldOf(t, api.Caps{}, dirAt("d", 5, 1), fileAt("d/f", 6, text(600), 2))
}

func exampleTree() api.Node { return dir("", 5, filed("f", 6, text(600))) }

func exampleStage(t testing.TB, w *world.World) *Stage {
	return New(w, api.A, api.B, "d", ".twine/1", treeOf(t, exampleTree()))
}

// stands looks at what a stage tells of itself, and at what is staged.
func stands(t testing.TB, what string, s *Stage, w *world.World, next string, left int, there string) {
	t.Helper()
	p, ok := s.Next()
	want(t, what+": Next", p, next)
	want(t, what+": there is one", ok, left > 0)
	want(t, what+": Left", s.Left(), left)
	want(t, what+": what is staged", staged(w), there)
}

// does looks at what a step tells.
func does(t testing.TB, what string, s *Stage, did int, e api.Errno) {
	t.Helper()
	gotDid, gotE := s.Step()
	want(t, what+": did", gotDid, did)
	want(t, what+": error", gotE, e)
}

func TestP16_Example1(t *testing.T) {
	w := exampled(t)
	s := exampleStage(t, w)
	for _, c := range []struct {
		next  string
		left  int
		there string
	}{
		{"d", 3, ""},
		{"d/f", 2, "1 1.5.0.0"},
		{"d/f", 1, "1 1.5.0.0, 1/f 2.7.512.0"},
	} {
		stands(t, "ahead of a step", s, w, c.next, c.left, c.there)
		does(t, "a step at "+c.next, s, api.DidStage, api.OK)
	}
	there := "1 1.5.0.0, 1/f 2.6.600.600"
	stands(t, "at the end", s, w, "", 0, there)
	does(t, "a step at the end", s, api.DidNothing, api.OK)
	stands(t, "behind the end", s, w, "", 0, there)
	isOver(t, "behind the end", s, w)
	want(t, "the bytes", pictured(w, api.B, ".twine/1"), values(treeOf(t, exampleTree())))
}

func TestP16_Example2(t *testing.T) {
	half := "1 1.5.0.0, 1/f 2.7.512.0"
	for _, c := range []struct {
		what    string
		ahead   int // of so many steps, counted from 0
		edit    api.Edit
		dids    []int // of this step and those behind it
		there   string
		missing bool // the last one's error is ErrStageOther
	}{
		{"an Append", 1, api.Edit{Kind: api.EditAppend, Path: "d/f", Data: []byte("more")}, []int{api.DidStage, api.DidStage, api.DidNothing}, "1 1.5.0.0, 1/f 2.6.600.600", false},
		{"an Append, later", 2, api.Edit{Kind: api.EditAppend, Path: "d/f", Data: []byte("more")}, []int{api.DidStage, api.DidNothing}, "1 1.5.0.0, 1/f 2.6.600.600", false},
		{"a write", 1, api.Edit{Kind: api.EditWrite, Path: "d/f", Data: []byte(strings.Repeat("y", 600))}, []int{api.DidStage, api.DidOvertaken}, "1 1.5.0.0, 1/f 2.7.600.0", true},
		{"a write, later", 2, api.Edit{Kind: api.EditWrite, Path: "d/f", Data: []byte(strings.Repeat("y", 600))}, []int{api.DidOvertaken}, "1 1.5.0.0, 1/f 2.7.600.0", true},
		{"gone", 1, api.Edit{Kind: api.EditRemove, Path: "d/f"}, []int{api.DidOvertaken}, "1 1.5.0.0", true},
		{"gone, ahead of all", 0, api.Edit{Kind: api.EditRemove, Path: "d/f"}, []int{api.DidStage, api.DidOvertaken}, "1 1.5.0.0", true},
		{"gone, later", 2, api.Edit{Kind: api.EditRemove, Path: "d/f"}, []int{api.DidOvertaken}, half, true},
	} {
		w := exampled(t)
		s := exampleStage(t, w)
		for range c.ahead {
			does(t, c.what+": ahead of it", s, api.DidStage, api.OK)
		}
		wantOK(t, c.what, w.Edit(api.A, c.edit))
		for i, did := range c.dids {
			e := api.OK
			if c.missing && i == len(c.dids)-1 {
				e = api.ErrStageOther
			}
			left := s.Left()
			does(t, c.what, s, did, e)
			if did == api.DidStage {
				want(t, c.what+": Left", s.Left(), left-1)
			}
		}
		stands(t, c.what+": at the end", s, w, "", 0, c.there)
		isOver(t, c.what+": at the end", s, w)
	}
	want(t, "the number", int(api.ErrStageOther), 160)
}

func TestP16_Example3(t *testing.T) {
	w := exampled(t)
	wantOK(t, "no .twine", w.Remove(api.B, ".twine"))
	s := exampleStage(t, w)
	stands(t, "no .twine", s, w, "d", 3, "")
	does(t, "no .twine", s, api.DidFailed, api.ErrWorldWay)
	stands(t, "no .twine: behind it", s, w, "", 0, "")
	isOver(t, "no .twine", s, w)

	w = exampled(t)
	s = New(w, api.A, api.B, "d", ".twine/1", treeOf(t, dir("", api.Unknown)))
	stands(t, "an unknown mode", s, w, "d", 1, "")
	does(t, "an unknown mode", s, api.DidFailed, api.ErrWorldMode)
	stands(t, "an unknown mode: behind it", s, w, "", 0, "1 1.7.0.0")
	isOver(t, "an unknown mode", s, w)
}
