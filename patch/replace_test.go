package patch

import (
	"crypto/sha256"
	"fmt"
	"strings"
	"testing"

	"twine/api"
	"twine/codec"
	"twine/tree"
)

// expected: the tree that comes of a Replace, and the error, by P8.2's words.
func expected(t *tree.Tree, most int, p string, s *tree.Tree) (*tree.Tree, api.Errno) {
	var u *tree.Tree
	var e api.Errno
	if s != nil {
		u, e = t.Put(p, s)
	} else {
		u, e = t.Drop(p)
	}
	if e == api.OK {
		_, e = codec.Encode(u, 3, most)
	}
	if e != api.OK {
		return t, e
	}
	return u, api.OK
}

// tried: does a Replace what P8.2 says, and are Tree, Bytes and Root right behind it?
func tried(t *testing.T, what string, x *Patch, most int, sum summer, p string, s *tree.Tree) api.Errno {
	t.Helper()
	before := x.Tree()
	want, wantErr := expected(before, most, p, s)
	if e := x.Replace(p, s); e != wantErr {
		t.Errorf("%s: %v, want %v", what, e, wantErr)
	}
	alike(t, what, told(x), plainly(want, sum))
	return wantErr
}

// things: what is put, and nil.
func things(t *testing.T) map[string]*tree.Tree {
	return map[string]*tree.Tree{
		"nil":                nil,
		"a file":             of(t, file("", 6, 77)),
		"a marked file":      of(t, file("", 6, 77, 1, 2, 300, 400)),
		"a link":             of(t, link("", 2)),
		"an empty directory": of(t, dir("", 7)),
		"another one":        of(t, dir("", 3)),
		"a directory of one": of(t, dir("", 7, file("q", 1, 1))),
		"of two":             of(t, dir("", 7, dir("q", 1, link("r", 1)), file("s", 1, 1))),
		"of three":           of(t, wide(3)),
		"of many":            of(t, wide(129)),
		"some":               of(t, some()),
		"a chain of 62":      of(t, chain(file("", 6, 1), 62)),
		"a chain of 64":      of(t, chain(file("", 6, 1), 64)),
	}
}

// wrongPaths: texts that are no paths.
func wrongPaths() []string {
	return []string{"/", "//", "a//b", "/a", "a/", ".", "..", "a/..", "./a", "a\x00b", strings.Repeat("n", api.MaxName+1), chained(65), chained(64) + "/", strings.Repeat("/", 70)}
}

// pathsOf: each path of a tree, one beside each and one below each, and texts that are no paths.
func pathsOf(t *tree.Tree) []string {
	l := wrongPaths()
	for p := range t.All() {
		l = append(l, p, below(p, "!"), below(p, "k"), below(p, "zz"), below(p, "no/way"))
		if p != "" {
			l = append(l, p+"0")
		}
	}
	return l
}

// Each thing, at each path of each tree, beside it and below it: once, in a new patch.
func TestP8_2EachPlace(t *testing.T) {
	all := things(t)
	for what, n := range roots() {
		if nodes(n) > 40 {
			continue
		}
		x := of(t, n)
		for _, p := range pathsOf(x) {
			for thing, s := range all {
				most := x.Count() + 20 // not all fit
				y, e := New(x, most, sha256.Sum256)
				if e != api.OK {
					t.Fatalf("%s: %v", what, e)
				}
				tried(t, fmt.Sprintf("%s, %s at %q", what, thing, p), y, most, sha256.Sum256, p, s)
			}
		}
		if t.Failed() {
			return
		}
	}
}

// The first, each middle and the last child: another one, none, one more; in directories of any width about powers of two.
func TestP8_2EachChild(t *testing.T) {
	for n := 1; n <= 34; n++ {
		for i := range n {
			for _, c := range []struct {
				what string
				p    string
				s    *tree.Tree
			}{
				{"another", nameOf(i), of(t, file("", 7, 1<<20))},
				{"a directory", nameOf(i), of(t, dir("", 7, file("f", 1, 1)))},
				{"none", nameOf(i), nil},
				{"one ahead", nameOf(i)[:6], of(t, link("", 9))},
				{"one behind", nameOf(i) + "+", of(t, dir("", 2))},
			} {
				x := made(t, wide(n), api.MaxNodes, nil)
				tried(t, fmt.Sprintf("%s, number %d of %d", c.what, i, n), x, api.MaxNodes, sha256.Sum256, c.p, c.s)
			}
		}
		if t.Failed() {
			return
		}
	}
}

func TestP8_2OnlyChild(t *testing.T) {
	x := made(t, dir("", 7, dir("d", 5, file("f", 6, 1))), 9, nil)
	for _, c := range []struct {
		p string
		s *tree.Tree
	}{
		{"d/f", of(t, link("", 1))}, {"d/f", nil}, {"d/g", of(t, file("", 1, 2))}, {"d/g", of(t, dir("", 1))}, {"d/g", nil},
		{"d", nil}, {"e", of(t, dir("", 7, dir("f", 7, dir("g", 7))))}, {"e/f/g", nil}, {"e/f", nil}, {"e", nil},
	} {
		if e := tried(t, c.p, x, 9, sha256.Sum256, c.p, c.s); e != api.OK {
			t.Errorf("%s: %v", c.p, e)
		}
	}
}

// Down to the last level: as deep as there are paths.
func TestP8_2Deep(t *testing.T) {
	x := made(t, chain(file("", 6, 1), api.MaxDepth), api.MaxNodes, nil)
	for _, levels := range []int{64, 63, 64, 1, 32, 64, 65} {
		for _, s := range []*tree.Tree{of(t, link("", 3)), of(t, dir("", 4)), of(t, chain(link("", 3), 64-min(levels, 64))), of(t, chain(link("", 3), max(65-levels, 0)))} {
			tried(t, fmt.Sprint(levels, " levels"), x, api.MaxNodes, sha256.Sum256, chained(levels), s)
		}
	}
	tried(t, "the last one goes", x, api.MaxNodes, sha256.Sum256, chained(64), nil)
}

// Where several errors hold, the first one is told.
func TestP8_2Order(t *testing.T) {
	const most = 5
	deep, big, f := of(t, chain(file("", 6, 1), 64)), of(t, wide(9)), of(t, file("", 6, 1))
	for _, c := range []struct {
		what string
		p    string
		s    *tree.Tree
		want api.Errno
	}{
		{"deep, no name, no way", chained(64) + "//", f, api.ErrPathDeep},
		{"deep, no name, no way, nil", chained(64) + "//", nil, api.ErrPathDeep},
		{"no name, no way", "x//y", f, api.ErrPathName},
		{"no name, no way, nil", "x//y", nil, api.ErrPathName},
		{"no name, too deep below", "./y", deep, api.ErrPathName},
		{"no way, too deep below, too many", "x/y", deep, api.ErrTreeWay},
		{"no way: a file", "a/y", deep, api.ErrTreeWay},
		{"no way, nil", "x/y", nil, api.ErrTreeWay},
		{"no way: a file, nil", "a/y", nil, api.ErrTreeWay},
		{"too deep below, too many", "x", deep, api.ErrTreeDeep},
		{"too deep below, in the place of a file", "a", deep, api.ErrTreeDeep},
		{"nothing there, nil", "x", nil, api.ErrTreeNone},
		{"the root, nil", "", nil, api.ErrTreeRoot},
		{"too many", "x", f, api.ErrCodecBounds},
		{"too many, in the place of a file", "a", big, api.ErrCodecBounds},
		{"too many, as the root", "", big, api.ErrCodecBounds},
		{"too many, deep, as the root", "", deep, api.ErrCodecBounds},
		{"a file as the root", "", f, api.ErrCodecRoot},
		{"a link as the root", "", of(t, link("", 1)), api.ErrCodecRoot},
	} {
		for name, sum := range sums() {
			calls := 0
			x := made(t, four(), most, func(b []byte) [32]byte { calls++; return sum(b) })
			calls = 0
			before := told(x)
			if e := x.Replace(c.p, c.s); e != c.want {
				t.Errorf("%s: %v, want %v", c.what, e, c.want)
			}
			if calls > 0 {
				t.Errorf("P8.4: %s: %d calls of the sum", c.what, calls)
			}
			alike(t, c.what+", "+name, told(x), before)
		}
	}
}

// What would come of it counts, not what is there: with just as many nodes as may be, one may be exchanged, and one may come when one has gone.
func TestP8_2Bounds(t *testing.T) {
	x := made(t, four(), 5, nil)
	for _, c := range []struct {
		p    string
		s    *tree.Tree
		want api.Errno
	}{
		{"e", of(t, file("", 6, 1)), api.ErrCodecBounds},
		{"a", of(t, dir("", 6)), api.OK},
		{"a/x", of(t, dir("", 6)), api.ErrCodecBounds},
		{"b", nil, api.OK},
		{"a/x", of(t, dir("", 6)), api.OK},
		{"a/y", of(t, dir("", 6)), api.ErrCodecBounds},
		{"a", of(t, dir("", 5, link("y", 1))), api.OK},
		{"", of(t, four()), api.OK},
		{"", of(t, wide(5)), api.ErrCodecBounds},
		{"", of(t, wide(4)), api.OK},
		{"", of(t, dir("", 1)), api.OK},
		{"e", of(t, wide(4)), api.ErrCodecBounds},
		{"e", of(t, wide(3)), api.OK},
	} {
		if e := tried(t, c.p, x, 5, sha256.Sum256, c.p, c.s); e != c.want {
			t.Errorf("%s: %v, want %v", c.p, e, c.want)
		}
	}
	for _, most := range []int{-1, 0, 1} { // the root alone
		x := made(t, dir("", 7), most, nil)
		if e := tried(t, "more", x, most, sha256.Sum256, "a", of(t, dir("", 7))); e != api.ErrCodecBounds {
			t.Errorf("most %d, two nodes: %v", most, e)
		}
		if e := tried(t, "another", x, most, sha256.Sum256, "", of(t, dir("", 6))); e != api.OK {
			t.Errorf("most %d, one node: %v", most, e)
		}
	}
}

// Another mode of a directory, other marks, another kind: what was kept of the old one isn't told any more.
func TestP8_2SamePathOtherThing(t *testing.T) {
	l := []api.Node{
		dir("", 7, file("f", 6, 1)), dir("", 6, file("f", 6, 1)), dir("", 7, file("f", 6, 1, 1, 2, 3, 4)), dir("", 7, dir("f", 6)), dir("", 7, dir("f", 5, link("x", 1))),
		file("", 7, 0), link("", 1), dir("", 7), dir("", 6), dir("", 7, dir("f", 6, link("x", 2))),
	}
	for _, p := range []string{"d", "d/d", "d/d/d"} {
		for i := range l {
			for j := range l {
				x := made(t, dir("", 7, file("e", 1, 1)), api.MaxNodes, nil)
				tried(t, "d", x, api.MaxNodes, sha256.Sum256, "d", of(t, dir("", 7, dir("d", 7))))
				for _, k := range []int{i, j, i} {
					tried(t, fmt.Sprintf("%s: %d, %d", p, i, j), x, api.MaxNodes, sha256.Sum256, p, of(t, l[k]))
				}
			}
		}
	}
}

func TestP8_Example(t *testing.T) {
	calls := 0
	sum := func(b []byte) [32]byte { calls++; return sha256.Sum256(b) }
	f := of(t, file("", 6, 2))
	for _, c := range []struct {
		what string
		p    string
		s    *tree.Tree
		want api.Errno
		most int
	}{
		{"another file", "b", f, api.OK, 1 + 2 + 2},
		{"one more", "e", f, api.OK, 1 + 2 + 5},
		{"one less", "c", nil, api.OK, 2 + 4},
		{"no way", "x/y", f, api.ErrTreeWay, 0},
		{"no way, nil", "x/y", nil, api.ErrTreeWay, 0},
	} {
		calls = 0
		x := made(t, four(), 9, sum)
		if calls > 12 {
			t.Errorf("New: %d calls, at most 12", calls)
		}
		calls = 0
		if e := tried(t, c.what, x, 9, sha256.Sum256, c.p, c.s); e != c.want {
			t.Errorf("%s: %v, want %v", c.what, e, c.want)
		}
		if calls > c.most {
			t.Errorf("%s: %d calls, at most %d", c.what, calls, c.most)
		}
	}
}
