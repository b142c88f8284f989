package scan

import (
	"fmt"
	"testing"

	"twine/api"
)

// The root's mode is unknown as long as it isn't done, and if it is lost; a directory that is lost isn't told, nor what is below it.
func TestP12_4Root(t *testing.T) {
	for after, c := range []struct{ tree, lost string }{
		{"/ 1.8.0", "/ 92"}, {"/ 1.8.0", "/ 92"}, {"/ 1.3.0, /f 2.6.1", "/d 92"}, {"/ 1.3.0, /f 2.6.1", "/d 92"}, {"/ 1.3.0, /d 1.5.0, /f 2.6.1", "/d/x 92"},
	} {
		w := worldOf(t, api.A, 4, dirAt("", 3, 1, 1), dirAt("d", 5, 2, 1), fileAt("d/x", 1, "", 3, 1), fileAt("f", 6, "a", 4, 1))
		w.Rig(api.A, after, 1, 0, true)
		s := New(w, api.A, ruled(t, ""), first(t))
		want(t, "at the beginning", brief(s.Tree()), "/ 1.8.0")
		toEnd(t, s)
		want(t, "Tree", brief(s.Tree()), c.tree)
		want(t, "Lost", lostText(s), c.lost)
	}
}

// Lost and Held rise by path, whatever texts they are.
func TestP12_4Rising(t *testing.T) {
	var things []api.Thing
	number := 0
	add := func(x func(p string) api.Thing, p string) {
		number++
		y := x(p)
		y.Number, y.Stamp = number, 1
		things = append(things, y)
	}
	dir := func(p string) api.Thing { return dirAt(p, 7, 0, 0) }
	file := func(p string) api.Thing { return fileAt(p, 7, "", 0, 0) }
	for _, p := range []string{"a", "a/b", "a/b/c", "a.b", "a.b/c", "b", "c", "c/d", "c/d/e", "c/d/f", "c!"} {
		add(dir, p)
	}
	for _, p := range []string{"a/b/c/o", "a.b/o", "b/f", "c/d/e/o", "c/d/f/o", "c!/o"} {
		add(file, p)
	}
	w := worldOf(t, api.A, 4, things...)
	s := New(w, api.A, ruled(t, "skip o"), first(t))
	behind := map[int]string{
		1: `[]`, 3: `[]`, 4: `["" "a" "a/b" "a/b/c"]`, 5: `["" "a" "a/b" "a/b/c" "a.b"]`, 10: `["" "a" "a/b" "a/b/c" "a.b"]`,
		12: `["" "a" "a/b" "a/b/c" "a.b" "c" "c/d" "c/d/e" "c/d/f"]`, 13: `["" "a" "a/b" "a/b/c" "a.b" "c" "c/d" "c/d/e" "c/d/f" "c!"]`,
	}
	for i := 1; s.Step(); i++ {
		if x, ok := behind[i]; ok {
			p, _ := s.Next()
			want(t, fmt.Sprintf("behind %d steps, ahead of %q", i, p), fmt.Sprintf("%q", s.Held()), x)
		}
	}
	w.Rig(api.A, 2, 99, 0, true)
	s = New(w, api.A, ruled(t, ""), first(t))
	toEnd(t, s)
	want(t, "Lost", lostText(s), "/a 92, /a.b 92, /b 92, /c 92, /c! 92")
}

// Names count as they are listed, those that are let be and the staging place too; a piece counts if it was read whole, whatever becomes of its file.
func TestP12_4Listed(t *testing.T) {
	w := worldOf(t, api.A, 4, dirAt(".twine", 7, 1, 1), fileAt(".twine/x", 7, "a", 2, 1), dirAt("d", 7, 3, 1), fileAt("d/a.o", 7, "a", 4, 1), fileAt("d/b.o", 7, "a", 5, 1), linkAt("d/l", "a", 6, 1), fileAt("f", 7, text(1300), 7, 1), fileAt("g.o", 7, "", 8, 1))
	s := New(w, api.A, ruled(t, "skip *.o"), first(t))
	for i, n := range []int{0, 4, 7, 7, 8, 9, 10} {
		want(t, fmt.Sprintf("behind %d steps", i), s.Listed(), n)
		want(t, "a step", s.Step(), i < 6)
	}
	for _, c := range []struct {
		what   string
		ahead  int
		data   string
		listed int
	}{
		{"the second piece isn't there", 3, text(512), 5},
		{"the second piece is shorter", 3, text(513), 5},
		{"the third piece isn't there", 3, text(1024), 6},
		{"the third piece is shorter", 3, text(1299), 6},
		{"all are there, and it is longer", 3, text(1301), 7},
		{"the third one alone is left", 4, text(1301), 7},
	} {
		w := worldOf(t, api.A, 4, dirAt("d", 7, 1, 1), fileAt("d/f", 7, text(1300), 2, 1), linkAt("d/g", "x", 3, 1), fileAt("d/h", 7, "", 4, 1))
		s := New(w, api.A, ruled(t, ""), first(t))
		for range c.ahead {
			s.Step()
		}
		wantOK(t, c.what, w.Edit(api.A, api.Edit{Kind: api.EditWrite, Path: "d/f", Data: []byte(c.data)}))
		toEnd(t, s)
		want(t, c.what+": Lost", lostText(s), "/d/f 120")
		want(t, c.what, s.Listed(), c.listed)
	}
}

// Thing tells of files of the tree alone.
func TestP12_4Thing(t *testing.T) {
	for v := range 3 {
		w := worldOf(t, v, 4, dirAt("d", 7, 1, 1), fileAt("d/f", 7, "a", 2, 3), fileAt("d/late", 7, "a", 3, 4), linkAt("l", "x", 4, 1), fileAt("lost", 7, text(600), 5, 2), fileAt("x.o", 7, "a", 6, 1), dirAt(".twine", 7, 7, 1), fileAt(".twine/f", 7, "a", 8, 1))
		s := New(w, v, ruled(t, "skip *.o"), first(t))
		for range 6 {
			s.Step()
		}
		wantOK(t, "an Append", w.Append(v, "lost", []byte("a")))
		toEnd(t, s)
		want(t, "Lost", lostText(s), "/lost 120")
		for _, p := range []string{"", "d", "l", "lost", "x.o", ".twine", ".twine/f", "nowhere", "d/nowhere", "d/f/x", "/d/f", "d//f", "d/f/", "/", ".", "..", "d/.", "d/../d/f", "\x00", "f"} {
			m, quick, ok := s.Thing(p)
			want(t, fmt.Sprintf("%q", p), m, api.Mark{})
			want(t, fmt.Sprintf("%q: quick", p), quick, false)
			want(t, fmt.Sprintf("%q: there", p), ok, false)
		}
		for p, x := range map[string]api.Mark{"d/f": {Number: 2, Stamp: 3}, "d/late": {Number: 3, Stamp: 4}} {
			m, quick, ok := s.Thing(p)
			want(t, fmt.Sprintf("%q", p), m, x)
			want(t, fmt.Sprintf("%q: quick", p), quick, false)
			want(t, fmt.Sprintf("%q: there", p), ok, true)
		}
	}
}

// A name that ends where another one's directory does isn't that one: what is kept of two files isn't mixed up.
func TestP12_4ThingsApart(t *testing.T) {
	w := worldOf(t, api.A, 4, dirAt("a", 7, 1, 1), fileAt("a/b", 7, "", 2, 1), fileAt("b", 7, "", 3, 2), dirAt("a.b", 7, 4, 1), fileAt("a.b/a", 7, "", 5, 3), dirAt("a/a", 7, 6, 1), fileAt("a/a/b", 7, "", 7, 3))
	s := New(w, api.A, ruled(t, ""), first(t))
	toEnd(t, s)
	for p, x := range map[string]api.Mark{"a/b": {Number: 2, Stamp: 1}, "b": {Number: 3, Stamp: 2}, "a.b/a": {Number: 5, Stamp: 3}, "a/a/b": {Number: 7, Stamp: 3}} {
		m, _, ok := s.Thing(p)
		want(t, p, m, x)
		want(t, p, ok, true)
	}
}
