package tree

import (
	"fmt"
	"slices"
	"strings"
	"testing"

	"twine/api"
)

// call: what a Fold told its function, and in the end what it was answered.
type call struct {
	p     string
	v     api.Value
	m     [2]api.Mark
	names []string
	below []int
}

// calls tells all calls of a Fold whose function answers how many there were.
func calls(x *Tree) ([]call, int) {
	var l []call
	n := Fold(x, func(p string, v api.Value, m [2]api.Mark, names []string, below []int) int {
		l = append(l, call{p, v, m, names, below})
		return len(l)
	})
	return l, n
}

func TestP4_10Order(t *testing.T) {
	l, n := calls(of(t, sample()))
	var got []string
	for _, c := range l {
		got = append(got, fmt.Sprintf("%q%q%d", c.p, c.names, c.below))
	}
	want := []string{`"a"[][]`, `"a b"[][]`, `"a.b"[][]`, `"d/d/x"[][]`, `"d/d/y"[][]`, `"d/d"["x" "y"][4 5]`, `"d/e"[][]`, `"d/\xff"[][]`, `"d"["d" "e" "\xff"][6 7 8]`, `"z"[][]`, `""["a" "a b" "a.b" "d" "z"][1 2 3 9 10]`}
	if !slices.Equal(got, want) || n != 11 {
		t.Errorf("%q, %d", got, n)
	}
	for _, c := range l {
		if w := flat(sample())[c.p]; c.v != w.v || c.m != w.m {
			t.Errorf("%q: %v, %v", c.p, c.v, c.m)
		}
	}
}

func TestP4_10RootAlone(t *testing.T) {
	for _, n := range []api.Node{dir("", 3), marked("", 3, 1, 2), file("", 3), link("", 3)} {
		l, k := calls(of(t, n))
		if len(l) != 1 || k != 1 || l[0].p != "" || l[0].v != n.Value || l[0].m != n.Marks || len(l[0].names) != 0 || len(l[0].below) != 0 {
			t.Errorf("%v: %v, %d", n, l, k)
		}
	}
}

func TestP4_10AllSmall(t *testing.T) {
	for _, n := range append(smallTrees(2), chain(file("z", 1), 64)) {
		x := of(t, n)
		type part struct {
			n     api.Node
			count int
		}
		got := Fold(x, func(p string, v api.Value, m [2]api.Mark, names []string, below []part) part {
			if len(names) != len(below) {
				t.Fatalf("%q: %d names, %d below", p, len(names), len(below))
			}
			at := part{api.Node{Value: v, Marks: m}, 1}
			for i, k := range below {
				at.count += k.count
				at.n.Kids = append(at.n.Kids, named(names[i], k.n))
			}
			if s, ok := x.Sub(p); !ok || s.Count() != at.count || !sameNode(s.Node(), at.n) {
				t.Fatalf("%q: %v", p, at)
			}
			return at
		})
		if !sameNode(got.n, n) || got.count != x.Count() {
			t.Fatalf("%v", got)
		}
	}
}

// Answers of other types, and a Fold within a Fold.
func TestP4_10Types(t *testing.T) {
	x := of(t, sample())
	text := Fold(x, func(p string, v api.Value, m [2]api.Mark, names []string, below []string) string {
		return p + "(" + strings.Join(below, ",") + ")"
	})
	if text != "(a(),a b(),a.b(),d(d/d(d/d/x(),d/d/y()),d/e(),d/\xff()),z())" {
		t.Errorf("%q", text)
	}
	none := Fold(x, func(string, api.Value, [2]api.Mark, []string, []struct{}) struct{} { return struct{}{} })
	if none != struct{}{} {
		t.Error("nothing")
	}
	sum := Fold(x, func(p string, _ api.Value, _ [2]api.Mark, _ []string, below []int) int {
		s, _ := x.Sub(p)
		_, n := calls(s)
		for _, k := range below {
			n += k
		}
		return n
	})
	want := 0
	for p := range x.All() {
		s, _ := x.Sub(p)
		want += s.Count()
	}
	if sum != want {
		t.Errorf("%d, want %d", sum, want)
	}
}

// The function may do with its lists what it likes, and keep them.
func TestP4_10NewMemory(t *testing.T) {
	x := of(t, sample())
	first, _ := calls(x)
	was := fmt.Sprint(first)
	var kept [][]string
	Fold(x, func(p string, v api.Value, m [2]api.Mark, names []string, below []int) int {
		for _, l := range kept {
			for i := range l[:cap(l)] {
				l[:cap(l)][i] = "spoilt"
			}
		}
		if w, _ := x.Sub(p); !slices.Equal(names, childNames(w)) {
			t.Errorf("%q: %q", p, names)
		}
		for i, k := range below {
			if k != len(names[i]) {
				t.Errorf("%q: %d", p, below)
			}
		}
		kept = append(kept, names)
		for i := range below[:cap(below)] {
			below[:cap(below)][i] = -1
		}
		return len(p) - strings.LastIndex(p, "/") - 1
	})
	if fmt.Sprint(first) != was {
		t.Error("an earlier Fold's lists are touched")
	}
	holds(t, x, flat(sample()))
}

func childNames(x *Tree) []string {
	var l []string
	for name := range x.Children() {
		l = append(l, name)
	}
	return l
}
