package rules

import (
	"fmt"
	"slices"
	"strings"
	"testing"

	"twine/api"
)

// deep: a path of so many names.
func deep(n int, name string) string {
	return strings.Join(slices.Repeat([]string{name}, n), "/")
}

func TestP11_5Skip(t *testing.T) {
	for _, c := range []struct {
		text    string
		let, no []string
	}{
		{"", nil, []string{"", "a", "a/b"}},
		{"# skip a", nil, []string{"a"}},
		{"prefer a a\nprefer b a", nil, []string{"a", "a/b"}},
		{"skip a", []string{"a", "b/a", "a/b", "a/b/c", "b/a/c"}, []string{"", "b", "ab", "b/ab", "A"}},
		{"skip /a", []string{"a", "a/b", "a/b/c", "a/a"}, []string{"b/a", "b/a/c", "b"}},
		{"skip a/b", []string{"a/b", "a/b/c", "a/b/c/d"}, []string{"a", "b", "c/a/b", "a/c", "a/c/b"}},
		{"skip a/*", []string{"a/b", "a/b/c", "a/c"}, []string{"a", "b/a/c", "b"}},
		{"skip a/**", []string{"a", "a/b", "a/b/c"}, []string{"b", "b/a"}},
		{"skip a/**/c", []string{"a/c", "a/b/c", "a/b/b/c", "a/c/d", "a/b/c/d"}, []string{"a", "a/b", "c", "b/c"}},
		{"skip **/b", []string{"b", "a/b", "a/b/c"}, []string{"a", "a/c"}},
		{"skip *.o", []string{"x.o", "d/x.o", "d.o/x", "a/d.o/x/y"}, []string{"x", "d/x", "x.oo"}},
		{"skip **", []string{"a", "a/b"}, []string{""}},
		{"skip /**", []string{"a", "a/b"}, []string{""}},
		{"skip *", []string{"a", "a/b"}, []string{""}},
		{"skip /*", []string{"a", "a/b"}, []string{""}},
		{"skip /*/*", []string{"a/b", "a/b/c"}, []string{"a", "b"}},
		{"skip ?", []string{"a", "ab/a", "a/ab"}, []string{"ab", "ab/ab"}},
		{"skip \\*", []string{"*", "a/*", "*/a"}, []string{"a", "**"}},
		{"skip x\nskip y", []string{"x", "y", "x/a", "a/y/b", "x/y"}, []string{"a", "a/b"}},
		{"prefer a x\nskip x\nprefer b x", []string{"x", "a/x", "x/a"}, []string{"a"}},
		{"skip .", nil, []string{"a", "", ".a"}},
	} {
		r := parsed(t, c.text)
		for _, p := range c.let {
			want(t, fmt.Sprintf("%q: Skip of %q", c.text, p), r.Skip(p), true)
		}
		for _, p := range c.no {
			want(t, fmt.Sprintf("%q: Skip of %q", c.text, p), r.Skip(p), false)
		}
	}
}

// What is no path isn't let be, not even if something above it would be.
func TestP11_5NoPath(t *testing.T) {
	for _, text := range []string{"skip a", "skip *", "skip **", "skip a/**", "skip /**", "skip **/a"} {
		r := parsed(t, text)
		for _, p := range []string{"/", "/a", "a/", "a//b", "//", "a/./b", "a/..", ".", "..", "../a", "a\x00", "a/\x00", "a/b/", deep(65, "a"), deep(66, "a"), strings.Repeat("a", 256), "a/" + strings.Repeat("a", 256), strings.Repeat("/", 100)} {
			want(t, fmt.Sprintf("%q: Skip of %.50q", text, p), r.Skip(p), false)
		}
	}
}

// The greatest paths, let be by their first name, their last one, one between, and all of them.
func TestP11_5Deep(t *testing.T) {
	for _, n := range []int{1, 2, 63, 64} {
		for _, name := range []string{"a", strings.Repeat("a", 255)} {
			for at := range n {
				names := slices.Repeat([]string{name}, n)
				names[at] = "x"
				p := strings.Join(names, "/")
				want(t, "a name of it", parsed(t, "skip x").Skip(p), true)
				want(t, "the first one", parsed(t, "skip /x").Skip(p), at == 0)
				want(t, "from the root on", parsed(t, "skip **/x").Skip(p), true)
				want(t, "two of them", parsed(t, "skip **/x/?*").Skip(p), at < n-1)
				want(t, "none", parsed(t, "skip y").Skip(p), false)
			}
		}
	}
	want(t, "64 names", parsed(t, "skip "+deep(64, "a")).Skip(deep(64, "a")), true)
	want(t, "63 of 64 names", parsed(t, "skip "+deep(63, "a")).Skip(deep(64, "a")), true)
	want(t, "64 of 63 names", parsed(t, "skip "+deep(64, "a")).Skip(deep(63, "a")), false)
}

func TestP11_6Prefer(t *testing.T) {
	for _, c := range []struct {
		text          string
		a, b, neither []string
	}{
		{"", nil, nil, []string{"", "x", "x/y"}},
		{"skip x", nil, nil, []string{"x", "x/y"}},
		{"prefer a x", []string{"x", "y/x"}, nil, []string{"", "y", "x/y", "xx"}},
		{"prefer b x", nil, []string{"x", "y/x"}, []string{"", "y", "x/y"}},
		{"prefer a /x", []string{"x"}, nil, []string{"y/x", "x/y"}},
		{"prefer a x/**", []string{"x", "x/y", "x/y/z"}, nil, []string{"y", "y/x"}},
		{"prefer b **", nil, []string{"x", "x/y"}, []string{""}},
		{"prefer a x\nprefer b x", nil, []string{"x"}, []string{"y"}},
		{"prefer b x\nprefer a x", []string{"x"}, nil, []string{"y"}},
		{"prefer a *\nprefer b x", []string{"y", "x/y"}, []string{"x", "y/x"}, []string{""}},
		{"prefer b x\nprefer a *", []string{"y", "x", "y/x"}, nil, []string{""}},
		{"prefer a x\nprefer b y\nprefer a z", []string{"x", "z"}, []string{"y"}, []string{"v"}},
		{"prefer a x\nprefer b x\nprefer a x\nskip x", []string{"x"}, nil, []string{"x/y"}},
		{"prefer b x\nskip *", nil, []string{"x", "y/x"}, []string{"y"}},
		{"prefer a .", nil, nil, []string{"x", ".x"}},
	} {
		r := parsed(t, c.text)
		for side, paths := range map[int][]string{0: c.neither, 1: c.a, 2: c.b} {
			for _, p := range paths {
				want(t, fmt.Sprintf("%q: Prefer of %q", c.text, p), r.Prefer(p), side)
			}
		}
	}
	want(t, "SideA", api.SideA, 1)
	want(t, "SideB", api.SideB, 2)
}

// The last one of many that match is asked, wherever it stands.
func TestP11_6LastOfMany(t *testing.T) {
	for last := range many {
		for _, side := range []int{1, 2} {
			lines := slices.Repeat([]string{"prefer a nowhere"}, many)
			for i := range last {
				lines[i] = []string{"prefer a x", "prefer b x", "prefer b *"}[i%3]
			}
			lines[last] = "prefer " + string("ab"[side-1]) + " x"
			want(t, fmt.Sprintf("the last one is %d", last), parsed(t, strings.Join(lines, "\n")).Prefer("x"), side)
		}
	}
}

func TestP11_6NoPath(t *testing.T) {
	for _, text := range []string{"prefer a *", "prefer b **", "prefer a /**\nprefer b a", "prefer b **/a"} {
		r := parsed(t, text)
		for _, p := range []string{"", "/", "/a", "a/", "a//a", "a/./a", "../a", ".", "..", "a\x00", deep(65, "a"), strings.Repeat("a", 256)} {
			want(t, fmt.Sprintf("%q: Prefer of %.50q", text, p), r.Prefer(p), 0)
		}
		want(t, "64 names", r.Prefer(deep(64, "a")) != 0, true)
	}
}

// Rules by chance say of all paths what the plain ones say.
func TestP11_5And6ByChance(t *testing.T) {
	paths := append(manyPaths(), fewPaths()...)
	for _, text := range manyRules(5, 400) {
		reads(t, text, paths)
	}
}

// A question changes nothing: the same again, in any order, and beside other rules.
func TestP11_5And6AskedTwice(t *testing.T) {
	r, other := parsed(t, "skip a\nprefer a b"), parsed(t, "skip b\nprefer b b")
	for range 3 {
		for _, p := range []string{"a", "b", "a/b", "b/a", "c", "", "a//b"} {
			want(t, "Skip of "+p, r.Skip(p), plain{{What: 1, Pattern: "a"}}.skip(p))
			want(t, "the other's Skip of "+p, other.Skip(p), plain{{What: 1, Pattern: "b"}}.skip(p))
			want(t, "Prefer of "+p, r.Prefer(p), plain{{What: 2, Pattern: "b"}}.prefer(p))
			want(t, "the other's Prefer of "+p, other.Prefer(p), plain{{What: 3, Pattern: "b"}}.prefer(p))
		}
		want(t, "Text", r.Text(), "skip a\nprefer a b")
		want(t, "the other's Text", other.Text(), "skip b\nprefer b b")
	}
}
