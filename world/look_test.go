package world

import (
	"fmt"
	"math"
	"strings"
	"testing"

	"twine/api"
)

func TestP9_6Stat(t *testing.T) {
	caps, clock, things := beginning()
	w := made(t, caps, clock, things)
	want(t, "a file", stat(t, w, api.A, "a/b"), api.Stat{Kind: api.File, Mode: 6, Size: 5, Number: 12, Stamp: 4})
	want(t, "a directory", stat(t, w, api.A, "a"), api.Stat{Kind: api.Dir, Mode: 5, Number: 3, Stamp: 2})
	want(t, "a link", stat(t, w, api.A, "c"), api.Stat{Kind: api.Link, Size: 3, Number: 7, Stamp: 5})
	want(t, "a root", stat(t, w, api.B, ""), api.Stat{Kind: api.Dir, Mode: 1, Number: 9, Stamp: 1})
	want(t, "a file without bytes", stat(t, w, api.B, ".twine/a"), api.Stat{Kind: api.File, Number: 1, Stamp: 5})
}

// Names rise byte by byte.
func TestP9_6List(t *testing.T) {
	w := empties(t)
	names := []string{"b", "a", "\xff", "a.b", "a b", "é", "...", "B", "10", "9", ".twine", strings.Repeat("a", 255)}
	for _, n := range names {
		ok(t, w.Mkdir(api.A, n), w.Create(api.A, n+"/in"))
	}
	want(t, "the root", listed(t, w, api.A, ""), fmt.Sprintf("%q", []string{"...", ".twine", "10", "9", "B", "a", "a b", "a.b", strings.Repeat("a", 255), "b", "é", "\xff"}))
	want(t, "one of them", listed(t, w, api.A, "a.b"), `["in"]`)
	want(t, "none", listed(t, w, api.B, ""), "[]")
}

func TestP9_6Read(t *testing.T) {
	w := empties(t)
	edited(t, w, api.A, newFile("f", "abcdef", 0), newFile("e", "", 0))
	for _, c := range []struct {
		off, n int
		want   string
	}{
		{0, 6, "abcdef"}, {0, 7, "abcdef"}, {0, math.MaxInt, "abcdef"}, {0, 3, "abc"}, {2, 3, "cde"}, {4, 3, "ef"}, {5, 1, "f"}, {5, math.MaxInt, "f"},
		{6, 1, ""}, {7, 1, ""}, {math.MaxInt, math.MaxInt, ""}, {2, 0, ""}, {2, -1, ""}, {0, math.MinInt, ""},
		{-1, 2, "ab"}, {math.MinInt, math.MaxInt, "abcdef"}, {-5, -5, ""},
	} {
		b, e := w.Read(api.A, "f", 4, c.off, c.n)
		want(t, fmt.Sprint("Read ", c.off, " ", c.n), fmt.Sprint(string(b), " ", e), fmt.Sprint(c.want, " ", api.OK))
		b, e = w.Read(api.A, "e", 5, c.off, c.n)
		want(t, "Read of an empty file", fmt.Sprint(string(b), " ", e), fmt.Sprint(" ", api.OK))
	}
	for _, number := range []int{0, -1, 3, 5, math.MaxInt, math.MinInt} {
		b, e := w.Read(api.A, "f", number, 0, 9)
		want(t, fmt.Sprint("number ", number), fmt.Sprint(len(b), e), fmt.Sprint(0, api.ErrWorldOther))
	}
	ok(t, w.Rename(api.A, "e", "f"))
	_, e := w.Read(api.A, "f", 4, 0, 9)
	want(t, "another thing by now", e, api.ErrWorldOther)
}

func TestP9_6Target(t *testing.T) {
	w := empties(t)
	for i, target := range []string{"t", "/", "../x", "a\xffb", strings.Repeat("t", 4095)} {
		p := fmt.Sprint("l", i)
		ok(t, w.Link(api.A, p, target))
		s, e := w.Target(api.A, p)
		want(t, p, s, target)
		want(t, p, e, api.OK)
		want(t, p, stat(t, w, api.A, p).Size, len(target))
	}
}

// A reading call changes nothing.
func TestP9_6NothingChanges(t *testing.T) {
	w := ground(t)
	before := whole(w)
	for _, c := range singles() {
		if !c.reading {
			continue
		}
		for _, p := range []string{"", "d", "f", "l", "no", "f/x"} {
			c.do(w, api.A, p)
			want(t, c.name, whole(w), before)
		}
	}
	want(t, "nothing is unsure by it", told(w.After([3]int{99}, [3][]int{{9}}).Image(api.A)), strings.ReplaceAll(told(w.Image(api.A)), `"abc" 0 `, `"abc" 3 `))
}
