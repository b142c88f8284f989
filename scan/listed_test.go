package scan

import (
	"fmt"
	"math"
	"strings"
	"testing"

	"twine/api"
)

// Paths are gone through in their order: a path right ahead of what lies below it, names byte by byte.
func TestP12_1Order(t *testing.T) {
	w := worldOf(t, api.A, 5,
		dirAt("b", 7, 1, 1), fileAt("b/z", 7, "", 2, 1), fileAt("b/a", 7, "", 3, 1),
		dirAt("a", 7, 4, 1), fileAt("a/b", 7, "", 5, 1), dirAt("a/a", 7, 6, 1), fileAt("a/a/c", 7, "", 7, 1), fileAt("a/a.b", 7, "", 8, 1),
		dirAt("a.b", 7, 9, 1), fileAt("a.b/x", 7, "", 10, 1), fileAt("a!", 7, "", 11, 1), fileAt("\xff", 7, "", 12, 1), fileAt("A", 7, "", 13, 1), dirAt("e", 7, 14, 1))
	s := New(w, api.A, ruled(t, ""), first(t))
	p, ok := s.Next()
	want(t, "the first path", p, "")
	want(t, "there is one", ok, true)
	wantText(t, "steps", toEnd(t, s), "/ /A /a /a/a /a/a/c /a/a.b /a/b /a! /a.b /a.b/x /b /b/a /b/z /e /\xff")
	p, ok = s.Next()
	want(t, "at the end", p, "")
	want(t, "at the end there is one", ok, false)
}

// `.twine` in the root is never listed, whatever it is; below the root it is a name like others.
func TestP12_1Staging(t *testing.T) {
	for _, text := range []string{"", "skip .twine", "skip /.twine", "skip .twine/x"} {
		for i, x := range [][]api.Thing{
			{dirAt(".twine", 7, 1, 1), fileAt(".twine/x", 7, "x", 2, 1)},
			{fileAt(".twine", 7, "x", 1, 1)},
			{linkAt(".twine", "x", 1, 1)},
		} {
			what := fmt.Sprintf("%q, thing %d", text, i)
			s := New(worldOf(t, api.A, 5, append(x, fileAt("f", 6, "", 3, 1))...), api.A, ruled(t, text), first(t))
			wantText(t, what+": steps", toEnd(t, s), "/ /f")
			want(t, what+": Held", len(s.Held()), 0)
			want(t, what+": Listed", s.Listed(), 2)
		}
	}
	w := worldOf(t, api.A, 5, dirAt("d", 7, 1, 1), dirAt("d/.twine", 7, 2, 1), fileAt("d/.twine/x", 7, "", 3, 1), fileAt(".twine.o", 7, "", 4, 1), fileAt(".twin", 7, "", 5, 1))
	wantText(t, "below", toEnd(t, New(w, api.A, ruled(t, ""), first(t))), "/ /.twin /.twine.o /d /d/.twine /d/.twine/x")
	s := New(w, api.A, ruled(t, "skip .twine"), first(t))
	wantText(t, "below, let be", toEnd(t, s), "/ /.twin /.twine.o /d")
	want(t, "below, let be: Held", fmt.Sprintf("%q", s.Held()), `["" "d"]`)
}

// What the rules let be isn't listed, nor what lies below it.
func TestP12_1LetBe(t *testing.T) {
	for _, c := range []struct{ rules, steps, held string }{
		{"", "/ /a /a/b /a/b/c /a/x.o /d /d/a /x.o", `[]`},
		{"prefer a *", "/ /a /a/b /a/b/c /a/x.o /d /d/a /x.o", `[]`},
		{"skip *.o", "/ /a /a/b /a/b/c /d /d/a", `["" "a"]`},
		{"skip /*.o", "/ /a /a/b /a/b/c /a/x.o /d /d/a", `[""]`},
		{"skip a", "/ /d /x.o", `["" "d"]`},
		{"skip /a", "/ /d /d/a /x.o", `[""]`},
		{"skip a/b", "/ /a /a/x.o /d /d/a /x.o", `["" "a"]`},
		{"skip c", "/ /a /a/b /a/x.o /d /d/a /x.o", `["" "a" "a/b"]`},
		{"skip a/**", "/ /d /d/a /x.o", `[""]`},
		{"skip *", "/", `[""]`},
		{"skip c\nskip d/a", "/ /a /a/b /a/x.o /d /x.o", `["" "a" "a/b" "d"]`},
	} {
		w := worldOf(t, api.B, 5,
			dirAt("a", 7, 1, 1), dirAt("a/b", 7, 2, 1), fileAt("a/b/c", 7, "", 3, 1), fileAt("a/x.o", 7, "", 4, 1),
			dirAt("d", 7, 5, 1), fileAt("d/a", 7, "", 6, 1), fileAt("x.o", 7, "", 7, 1))
		s := New(w, api.B, ruled(t, c.rules), first(t))
		wantText(t, c.rules, toEnd(t, s), c.steps)
		want(t, c.rules+": Held", fmt.Sprintf("%q", s.Held()), c.held)
		want(t, c.rules+": Lost", lostText(s), "")
	}
}

// Volumes without a thing, and numbers that are no volume.
func TestP12_1Volumes(t *testing.T) {
	for v := range 3 {
		s := New(worldOf(t, api.A, 1), v, ruled(t, ""), first(t))
		wantText(t, "steps", toEnd(t, s), "/")
		want(t, "Tree", brief(s.Tree()), "/ 1.7.0")
		want(t, "Listed", s.Listed(), 0)
		want(t, "Lost", lostText(s), "")
	}
	for _, v := range []int{-1, 3, math.MaxInt, math.MinInt} {
		w := exampled(t, 3)
		m := newPlain(w.Copy(), v, ruled(t, ""), first(t))
		s := New(w, v, ruled(t, ""), first(t))
		want(t, "a step", s.Step(), m.step())
		held(t, fmt.Sprint("volume ", v), s, w, m)
		want(t, "a step more", s.Step(), false)
		want(t, "Lost", lostText(s), "/ 90")
		want(t, "Tree", brief(s.Tree()), "/ 1.8.0")
	}
}

// A path that comes into a directory behind its List isn't listed; one that comes ahead of it is.
func TestP12_1ListedByItsList(t *testing.T) {
	w := worldOf(t, api.A, 5, dirAt("a", 7, 1, 1), dirAt("b", 7, 2, 1), fileAt("b/m", 7, "", 3, 1))
	s := New(w, api.A, ruled(t, ""), first(t))
	s.Step()
	for _, p := range []string{"0", "aa", "z", "a/new", "b/new"} {
		wantOK(t, p, w.Edit(api.A, api.Edit{Kind: api.EditFile, Path: p}))
	}
	wantText(t, "steps", toEnd(t, s), "/a /a/new /b /b/m /b/new")
	want(t, "Listed", s.Listed(), 2+1+2)
}

// A volume can have a path of 66 names, a tree one of 64: all are gone through, what can be is told.
func TestP12_1LongPaths(t *testing.T) {
	w := worldOf(t, api.A, 2)
	deep := func(n int) string { return strings.Repeat("d/", n-1) + "d" }
	for n := 1; n <= 65; n++ {
		wantOK(t, "Mkdir", w.Mkdir(api.A, deep(n)))
		wantOK(t, "Create", w.Create(api.A, deep(n)+"f"))
	}
	wantOK(t, "Create", w.Create(api.A, deep(66)))
	wantOK(t, "Append", w.Append(api.A, deep(66), []byte(text(600))))
	for _, rule := range []string{"", "skip df", "skip d/**/df"} {
		u, c := w.Copy(), w.Copy()
		s, m := New(u, api.A, ruled(t, rule), first(t)), newPlain(c, api.A, ruled(t, rule), first(t))
		for s.Step() {
			want(t, "a step", m.step(), true)
		}
		held(t, rule, s, u, m)
		want(t, "Depth", s.Tree().Depth(), 64)
	}
	w.Rig(api.A, 2*66, 1, 0, true) // Stat and List of the root and of 65 directories go on
	s := New(w, api.A, ruled(t, ""), first(t))
	toEnd(t, s)
	want(t, "Lost", lostText(s), "/"+deep(66)+" 92")
}
