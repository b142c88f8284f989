package patch

import (
	"bytes"
	"crypto/sha256"
	"fmt"
	"testing"

	"twine/api"
	"twine/codec"
	"twine/merkle"
	"twine/tree"
)

// encoded: are a patch's bytes and root those of layers 6 and 5?
func encoded(t *testing.T, what string, x *Patch, want *tree.Tree) {
	t.Helper()
	b, e := codec.Encode(want, 3, api.MaxNodes)
	if e != api.OK || !bytes.Equal(x.Bytes(), b) {
		t.Errorf("%s: not Encode's bytes", what)
	}
	if x.Root() != merkle.By(nil).Root(want) {
		t.Errorf("%s: not merkle's root", what)
	}
}

// Long runs over SHA-256, handed in and not, beside one another: Encode's bytes and merkle's root at each step.
func TestP8_5LongRuns(t *testing.T) {
	for seed := range int64(12) {
		a := newAuthor(t, 100+seed)
		n := randomTree(a.r, 40)
		x, y := made(t, n, 200, nil), made(t, n, 200, sha256.Sum256)
		want := of(t, n)
		for i := range 150 {
			p, s := a.next(want)
			next, e := expected(want, 200, p, s)
			for _, z := range []*Patch{x, y} {
				if got := z.Replace(p, s); got != e {
					t.Fatalf("seed %d, step %d, %q: %v, want %v", seed, i, p, got, e)
				}
				encoded(t, fmt.Sprint("seed ", seed, ", step ", i), z, next)
			}
			want = next
		}
		if t.Failed() {
			return
		}
	}
}

// What is replaced and replaced back leaves the bytes as they were: one by one, and many, back in the other order.
func TestP8_5Back(t *testing.T) {
	for name, sum := range sums() {
		x := made(t, some(), api.MaxNodes, sum)
		before := told(x)
		for thing, s := range things(t) {
			for p := range x.Tree().All() {
				was, _ := x.Tree().Sub(p)
				if x.Replace(p, s) != api.OK {
					continue
				}
				if e := x.Replace(p, was); e != api.OK {
					t.Errorf("%s, back from %s at %q: %v", name, thing, p, e)
				}
				alike(t, fmt.Sprintf("%s, back from %s at %q", name, thing, p), told(x), before)
			}
			if p := "a/new"; s != nil && s.Depth() < 60 {
				one, two := x.Replace(p, s), x.Replace(p, nil)
				if one != api.OK || two != api.OK {
					t.Errorf("%s, come and gone: %v, %v", thing, one, two)
				}
				alike(t, fmt.Sprintf("%s, come and gone: %s", name, thing), told(x), before)
			}
		}
	}
}

func TestP8_5BackManySteps(t *testing.T) {
	for seed := range int64(8) {
		a := newAuthor(t, 200+seed)
		x := made(t, randomTree(a.r, 40), 300, nil)
		type step struct {
			p   string
			was *tree.Tree
		}
		var back []step
		states := []state{told(x)}
		for len(back) < 80 {
			p, s := a.next(x.Tree())
			was, _ := x.Tree().Sub(p)
			if x.Replace(p, s) != api.OK {
				continue
			}
			if s != nil || was != nil {
				back = append(back, step{p, was})
				states = append(states, told(x))
			}
		}
		for i := len(back) - 1; i >= 0; i-- {
			if e := x.Replace(back[i].p, back[i].was); e != api.OK {
				t.Fatalf("seed %d, back to %d: %v", seed, i, e)
			}
			if !alike(t, fmt.Sprintf("seed %d, back to %d", seed, i), told(x), states[i]) {
				return
			}
		}
	}
}

// In whichever order: two trees' things put at unlike places give the same bytes as those put the other way round, and as a new patch of what came of it.
func TestP8_5WhicheverOrder(t *testing.T) {
	for name, sum := range sums() {
		l := []string{"a/b", "a/c", "e/x", "b", "~"}
		s := []*tree.Tree{of(t, some()), of(t, file("", 1, 2)), of(t, link("", 3)), of(t, wide(5)), of(t, dir("", 1))}
		one, other := made(t, some(), api.MaxNodes, sum), made(t, some(), api.MaxNodes, sum)
		for i := range l {
			j := len(l) - 1 - i
			if e := one.Replace(l[i], s[i]); e != api.OK {
				t.Fatalf("%s: %v", l[i], e)
			}
			if e := other.Replace(l[j], s[j]); e != api.OK {
				t.Fatalf("%s: %v", l[j], e)
			}
		}
		alike(t, name, told(one), told(other))
		alike(t, name+", anew", told(made(t, one.Tree().Node(), api.MaxNodes, sum)), told(one))
	}
}

// P22.6 over all scripts of two Replaces of a few things at a few places, from a few trees, and of three from one of them.
func TestP22_6AllShortScripts(t *testing.T) {
	type op struct {
		p string
		s *tree.Tree
	}
	var ops []op
	for _, p := range []string{"", "a", "b", "a/a", "a/b", "a/a/a", "/"} {
		ops = append(ops, op{p, nil})
		for _, n := range []api.Node{file("", 6, 1), link("", 1), dir("", 7), dir("", 7, file("a", 6, 1)), dir("", 6, dir("a", 7, file("a", 6, 2)), file("b", 6, 1))} {
			ops = append(ops, op{p, of(t, n)})
		}
	}
	sum := sums()["a byte"]
	var play func(first *tree.Tree, script []op, more int)
	play = func(first *tree.Tree, script []op, more int) {
		x, _ := New(first, 6, sum)
		want := first
		for _, o := range script {
			next, e := expected(want, 6, o.p, o.s)
			if got := x.Replace(o.p, o.s); got != e {
				t.Fatalf("%v: %v, want %v", script, got, e)
			}
			want = next
		}
		if !alike(t, fmt.Sprint(script), told(x), plainly(want, sum)) {
			t.FailNow()
		}
		if more > 0 {
			for _, o := range ops {
				play(first, append(script[:len(script):len(script)], o), more-1)
			}
		}
	}
	play(of(t, dir("", 7)), nil, 2)
	play(of(t, dir("", 7, dir("a", 7, file("a", 6, 1), file("b", 6, 1)), file("b", 6, 1))), nil, 2)
	ops = ops[:24:24]
	play(of(t, dir("", 7, dir("a", 7, dir("a", 7)), file("c", 1, 1))), nil, 3)
}

// P22.6 over long scripts: what is held decodes to the edited tree.
func TestP22_6LongScripts(t *testing.T) {
	for seed := range int64(10) {
		a := newAuthor(t, 300+seed)
		n := randomTree(a.r, 30)
		x, want := made(t, n, 150, nil), of(t, n)
		for i := range 120 {
			p, s := a.next(want)
			want, _ = expected(want, 150, p, s)
			x.Replace(p, s)
			got, version, err := codec.Decode(x.Bytes(), 150)
			if err != nil || version != 3 {
				t.Fatalf("seed %d, step %d: version %d, %v", seed, i, version, err)
			}
			alike(t, fmt.Sprint("seed ", seed, ", step ", i), state{got.Node(), string(x.Bytes()), x.Root()}, plainly(want, sha256.Sum256))
		}
	}
}
