package scan

import (
	"fmt"
	"testing"

	"twine/api"
	"twine/world"
)

// exampled: the chapter's volume A.
func exampled(t testing.TB, clock int) *world.World {
	return worldOf(t, api.A, clock,
		dirAt("d", 5, 5, 1), fileAt("d/f", 6, text(600), 7, 3), fileAt("d/x.o", 6, "o", 8, 1), linkAt("l", "to", 9, 1))
}

func TestP12_Example1(t *testing.T) {
	w := exampled(t, 3)
	s := New(w, api.A, ruled(t, "skip *.o"), first(t))
	wantText(t, "steps", toEnd(t, s), "/ /d /d/f /d/f /l")
	want(t, "a step at the end", s.Step(), false)
	want(t, "Held", fmt.Sprintf("%q", s.Held()), `["" "d"]`)
	want(t, "Listed", s.Listed(), 2+2+2)
	m, quick, ok := s.Thing("d/f")
	want(t, "Thing", m, api.Mark{Number: 7, Stamp: 3})
	want(t, "Thing: quick", quick, false)
	want(t, "Thing: there", ok, true)
	want(t, "marks", marksOf(t, s, "d/f"), [2]api.Mark{})
	wantText(t, "Tree", values(s.Tree()), lineOf("", api.Value{Kind: api.Dir, Mode: 7}, [2]api.Mark{})+
		lineOf("d", api.Value{Kind: api.Dir, Mode: 5}, [2]api.Mark{})+
		lineOf("d/f", api.Value{Kind: api.File, Mode: 6, Size: 600, Sum: plainDigest([]byte(text(600)))}, [2]api.Mark{})+
		lineOf("l", api.Value{Kind: api.Link, Size: 2, Sum: plainDigest([]byte("to"))}, [2]api.Mark{}))
}

func TestP12_Example2(t *testing.T) {
	w, r := exampled(t, 3), ruled(t, "skip *.o")
	s := New(w, api.A, r, first(t))
	s.Step()
	s.Step()
	w.Tick() // it is 4 in d/f's first step
	toEnd(t, s)
	want(t, "marks", marksOf(t, s, "d/f"), [2]api.Mark{{Number: 7, Stamp: 3}})
	u := New(w, api.A, r, s.Tree())
	wantText(t, "steps", toEnd(t, u), "/ /d /d/f /l")
	wantText(t, "Tree", flat(u.Tree()), flat(s.Tree()))
	m, quick, ok := u.Thing("d/f")
	want(t, "Thing", m, api.Mark{Number: 7, Stamp: 3})
	want(t, "Thing: quick", quick, true)
	want(t, "Thing: there", ok, true)
	want(t, "Listed", u.Listed(), 2+2)
}

func TestP12_Example3(t *testing.T) {
	r := ruled(t, "skip *.o")
	w := exampled(t, 3)
	s := New(w, api.A, r, first(t))
	for range 3 {
		s.Step()
	}
	wantOK(t, "an Append", w.Append(api.A, "d/f", []byte("y")))
	toEnd(t, s)
	want(t, "an Append between: Lost", lostText(s), "/d/f 120")
	want(t, "an Append between: Tree", brief(s.Tree()), "/ 1.7.0, /d 1.5.0, /l 3.0.2")

	w = exampled(t, 3)
	s = New(w, api.A, r, first(t))
	s.Step()
	s.Step()
	wantOK(t, "a Remove", w.Remove(api.A, "d/f"))
	wantText(t, "a Remove ahead: steps", toEnd(t, s), "/d/f /l")
	want(t, "a Remove ahead: Lost", lostText(s), "")
	want(t, "a Remove ahead: Tree", brief(s.Tree()), "/ 1.7.0, /d 1.5.0, /l 3.0.2")

	w = exampled(t, 3)
	w.Rig(api.A, 1, 1, 0, true)
	s = New(w, api.A, r, first(t))
	wantText(t, "a rig: steps", toEnd(t, s), "/")
	want(t, "a rig: Lost", lostText(s), "/ 92")
	want(t, "a rig: Tree", brief(s.Tree()), "/ 1.8.0")
}
