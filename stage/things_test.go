package stage

import (
	"fmt"
	"math"
	"strings"
	"testing"

	"twine/api"
	"twine/world"
)

// several: each kind, in an order in which texts and paths differ; the bytes of its files and links, by path.
func several() (api.Node, map[string]string) {
	n := dir("", 5,
		dir("a", 3, dir("b", 0, filed("c", 1, text(513))), link("l", "to")),
		filed("a!", 2, text(1)),
		filed("a.b", 4, ""),
		dir("e", 7),
		filed("\xff", 0, text(1025)),
	)
	return n, map[string]string{"a/b/c": text(513), "a/l": "to", "a!": text(1), "\xff": text(1025)}
}

// A tree that is one thing, one of each kind.
func TestP16_1OneThing(t *testing.T) {
	for _, c := range []struct {
		what, data, there string
		n                 api.Node
	}{
		{"a file", "abc", "1 2.6.3.3", filed("", 6, "abc")},
		{"an empty file", "", "1 2.3.0.0", filed("", 3, "")},
		{"a link", "to/there", "1 3.0.8.0", link("", "to/there")},
		{"a long link", strings.Repeat("t", api.MaxTarget), "1 3.0.4095.0", link("", strings.Repeat("t", api.MaxTarget))},
		{"an empty directory", "", "1 1.2.0.0", dir("", 2)},
	} {
		w := begun(t, "x", c.n, map[string]string{"": c.data})
		s := New(w, api.A, api.B, "x", ".twine/1", treeOf(t, c.n))
		stands(t, c.what, s, w, "x", 1, "")
		does(t, c.what, s, api.DidStage, api.OK)
		stands(t, c.what+": behind it", s, w, "", 0, c.there)
		isOver(t, c.what, s, w)
		want(t, c.what, pictured(w, api.B, ".twine/1"), values(treeOf(t, c.n)))
	}
}

// Things come in the order of a tree: a directory ahead of what is in it, names byte by byte.
func TestP16_1Order(t *testing.T) {
	n, data := several()
	w := begun(t, "d", n, data)
	s := New(w, api.A, api.B, "d", ".twine/1", treeOf(t, n))
	var l []string
	for {
		p, ok := s.Next()
		if !ok {
			break
		}
		l = append(l, fmt.Sprint(p, " ", s.Left()))
		does(t, "a step at "+p, s, api.DidStage, api.OK)
	}
	want(t, "steps", strings.Join(l, ", "), "d 12, d/a 11, d/a/b 10, d/a/b/c 9, d/a/b/c 8, d/a/l 7, d/a! 6, d/a.b 5, d/e 4, d/\xff 3, d/\xff 2, d/\xff 1")
	want(t, "what is staged", staged(w), "1 1.5.0.0, 1/a 1.3.0.0, 1/a/b 1.0.0.0, 1/a/b/c 2.1.513.513, 1/a/l 3.0.2.0, 1/a! 2.2.1.1, 1/a.b 2.4.0.0, 1/e 1.7.0.0, 1/\xff 2.0.1025.1025")
	want(t, "its values", pictured(w, api.B, ".twine/1"), values(treeOf(t, n)))
}

// Where the things come from, and where they go: the root, one name, several; any two volumes, and one.
func TestP16_1Places(t *testing.T) {
	n, data := several()
	for _, src := range []string{"", "d", "d/e/f"} {
		for _, place := range []string{".twine/1", "p", ".twine/x/y/z"} {
			for _, to := range []int{api.A, api.B, api.S} {
				what := fmt.Sprintf("from %q to %q of volume %d", src, place, to)
				w := begun(t, src, n, data)
				for i := range place {
					if place[i] == '/' {
						w.Mkdir(to, place[:i])
					}
				}
				before, x := outside(w, to, place), treeOf(t, n)
				p := paired(w)
				p.begin(api.A, to, src, place, x)
				q, ok := p.stages[0].Next()
				want(t, what+": Next", q, src)
				want(t, what+": there is one", ok, true)
				did, e := p.toEnd(t, what)
				want(t, what+": the last step", did, api.DidStage)
				want(t, what+": its error", e, api.OK)
				wantText(t, what, pictured(w, to, place), values(x))
				wantText(t, what+": all else", outside(w, to, place), before)
			}
		}
	}
}

// outside: all volumes, without what stands at a place.
func outside(w *world.World, v int, place string) string {
	var b strings.Builder
	fmt.Fprintln(&b, w.Clock())
	for u := range 3 {
		for _, x := range w.Image(u) {
			if u != v || !lies(x.Path, place) {
				fmt.Fprintf(&b, "%d %q %d.%d %q %d #%d @%d\n", u, x.Path, x.Kind, x.Mode, x.Data, x.Sure, x.Number, x.Stamp)
			}
		}
	}
	return b.String()
}

// One volume, and the one path below the other: the tree says what is brought, not what stands there by then.
func TestP16_1Nested(t *testing.T) {
	n, data := several()
	for _, c := range []struct{ src, place string }{{"d", "d/z"}, {"d", "d/a/z"}, {"", "z"}, {"x/d", "x/z"}, {"d", "d/\xff2"}} {
		w := begun(t, c.src, n, data)
		x := treeOf(t, n)
		before := outside(w, api.A, c.place)
		p := paired(w)
		p.begin(api.A, api.A, c.src, c.place, x)
		did, e := p.toEnd(t, c.src+" to "+c.place)
		want(t, "the last step", did, api.DidStage)
		want(t, "its error", e, api.OK)
		wantText(t, c.src+" to "+c.place, pictured(w, api.A, c.place), values(x))
		wantText(t, "all else", outside(w, api.A, c.place), before)
	}
}

// The place is the source itself: something stands there.
func TestP16_1OntoItself(t *testing.T) {
	n, data := several()
	w := begun(t, "d", n, data)
	before := told(w)
	s := New(w, api.A, api.A, "d", "d", treeOf(t, n))
	does(t, "a step", s, api.DidFailed, api.ErrWorldTwice)
	isOver(t, "behind it", s, w)
	wantText(t, "the world", told(w), before)
}

// The longest paths: a tree's 64 names below a place of two.
func TestP16_1LongPaths(t *testing.T) {
	n := filed("n", 6, "abc")
	for range 62 {
		n = dir("n", 5, n)
	}
	n = dir("", 5, dir("n", 5, n))
	x := treeOf(t, n)
	want(t, "Depth", x.Depth(), 64)
	data := map[string]string{strings.Repeat("n/", 63) + "n": "abc"}
	w := begun(t, "", n, data)
	s := New(w, api.A, api.B, "", ".twine/1", x)
	want(t, "Left", s.Left(), 65)
	steps, did, e := run(s)
	want(t, "steps", steps, 65)
	want(t, "did", did, api.DidNothing)
	want(t, "error", e, api.OK)
	wantText(t, "the staged ones", pictured(w, api.B, ".twine/1"), values(x))

	w = begun(t, "", n, data)
	wantOK(t, "a deeper place", w.Mkdir(api.B, ".twine/1"))
	s = New(w, api.A, api.B, "", ".twine/1/2", x)
	steps, did, e = run(s)
	want(t, "one name more: steps", steps, 64)
	want(t, "one name more: did", did, api.DidFailed)
	want(t, "one name more: error", e, api.ErrPathDeep)
}

// Texts that are no paths, as a source's and as a place's; Next tells what it was handed.
func TestP16_1NoPaths(t *testing.T) {
	n, data := several()
	for _, bad := range []string{"/", "//", "/d", "d/", "d//a", ".", "..", "a/../b", "a\x00b", strings.Repeat("n", 256), strings.Repeat("n/", 66) + "n", strings.Repeat("/", 99)} {
		err := api.ErrPathName
		if strings.Count(bad, "/") >= api.MaxWay {
			err = api.ErrPathDeep
		}
		w := begun(t, "d", n, data)
		p := paired(w)
		p.begin(api.A, api.B, bad, ".twine/1", treeOf(t, n)) // directories are made all the same: nothing is asked of their source
		did, e := p.toEnd(t, "a source "+bad)
		want(t, "a source: did", did, api.DidFailed)
		want(t, "a source: error", e, err)
		want(t, "a source: what is staged", staged(w), "1 1.5.0.0, 1/a 1.3.0.0, 1/a/b 1.0.0.0")

		for _, c := range []struct {
			n    api.Node
			data map[string]string
		}{{n, data}, {filed("", 6, ""), nil}, {link("", "to"), map[string]string{"": "to"}}} {
			w = begun(t, "d", c.n, c.data)
			before := images(w)
			p = paired(w)
			p.begin(api.A, api.B, "d", bad, treeOf(t, c.n))
			did, e = p.toEnd(t, "a place "+bad)
			want(t, "a place: did", did, api.DidFailed)
			want(t, "a place: error", e, err)
			wantText(t, "a place: the world", images(w), before)
		}
	}
	s := New(begun(t, "d", n, data), api.A, api.B, "/", ".twine/1", treeOf(t, n))
	q, _ := s.Next()
	want(t, "Next", q, "/")
	s.Step()
	q, _ = s.Next()
	want(t, "Next", q, "//a")
}

// The root as a place: nothing can be made there.
func TestP16_1RootAsPlace(t *testing.T) {
	for _, c := range []struct {
		n    api.Node
		data string
	}{{dir("", 7), ""}, {filed("", 6, "abc"), "abc"}, {link("", "to"), "to"}} {
		w := begun(t, "x", c.n, map[string]string{"": c.data})
		before := images(w)
		s := New(w, api.A, api.B, "x", "", treeOf(t, c.n))
		does(t, "a step", s, api.DidFailed, api.ErrWorldRoot)
		isOver(t, "behind it", s, w)
		wantText(t, "the world", images(w), before)
	}
}

// Numbers that are no volume's.
func TestP16_1NoVolumes(t *testing.T) {
	n, data := several()
	for _, v := range []int{-1, 3, math.MaxInt, math.MinInt} {
		w := begun(t, "d", n, data)
		s := New(w, v, api.B, "d", ".twine/1", treeOf(t, n))
		want(t, "Left", s.Left(), 12)
		steps, did, e := run(s)
		want(t, "from none: steps", steps, 3)
		want(t, "from none: did", did, api.DidFailed)
		want(t, "from none: error", e, api.ErrWorldVolume)
		isOver(t, "from none", s, w)

		w = begun(t, "l", link("", "to"), map[string]string{"": "to"})
		does(t, "a link from none", New(w, v, api.B, "l", ".twine/1", treeOf(t, link("", "to"))), api.DidFailed, api.ErrWorldVolume)
		want(t, "a link from none: what is staged", staged(w), "")
		does(t, "a link to none", New(w, api.A, v, "l", ".twine/1", treeOf(t, link("", "to"))), api.DidFailed, api.ErrWorldVolume)

		w = begun(t, "d", n, data)
		before := images(w)
		for q := range data {
			x, _ := treeOf(t, n).Sub(q)
			s := New(w, api.A, v, joined("d", q), "p", x)
			does(t, "to none", s, api.DidFailed, api.ErrWorldVolume)
			isOver(t, "to none", s, w)
		}
		s = New(w, api.A, v, "d", "p", treeOf(t, n))
		does(t, "a directory to none", s, api.DidFailed, api.ErrWorldVolume)
		wantText(t, "to none: the world", images(w), before)
	}
}
