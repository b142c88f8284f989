package merkle

import (
	"crypto/sha256"
	"fmt"
	"maps"
	"slices"
	"testing"

	"twine/api"
	"twine/tree"
)

// forgedRow holds what Forged answers against P5.8; it tells whether the proof was taken, and whether it was told as forged.
func forgedRow(t *testing.T, by func([]byte) [32]byte, n api.Node, x *tree.Tree, p string, v api.Value, proof []byte) (bool, bool) {
	t.Helper()
	m := By(by)
	texts, h := plainTexts(by, n)
	taken, summed := plainHolds(by, [32]byte([]byte(h)), p, v, proof)
	want := taken && clashing(by, summed, texts)
	a, b, ok := m.Forged(x, p, v, proof)
	if ok != want {
		t.Fatalf("%v, %q, %v, %x: %v", n, p, v, proof, ok)
	}
	if ok && !isClash(by, summed, texts, a, b) || !ok && (a != nil || b != nil) {
		t.Fatalf("%v, %q, %v, %x: %q, %q", n, p, v, proof, a, b)
	}
	return taken, ok
}

// few: some of the small trees, of all sorts.
func few() []api.Node {
	return []api.Node{
		file("", 1), link("", 1), link("", 2), dir("", 7), dir("", 5), dir("", 7, file("a", 1)), dir("", 7, file("a", 2)), dir("", 7, file("b", 1)), dir("", 7, dir("a", 7, file("a", 1))),
		dir("", 7, file("a", 1), link("b", 1)), dir("", 7, file("a", 1), file("c", 1)), dir("", 7, link("a", 1), file("b", 1), dir("c", 5)),
	}
}

func fewPaths() []string { return []string{"", "a", "b", "a/a", "a/b"} }

func fewValues() []api.Value {
	return []api.Value{{}, dir("", 7).Value, dir("", 5).Value, file("", 1).Value, file("", 2).Value, link("", 1).Value, link("", 2).Value}
}

// Each proof of each tree for each path, held against each other tree and each value.
func TestP5_8ForgedIsAllOfIt(t *testing.T) {
	for name, by := range sums() {
		takes, tells := 0, 0
		for _, n := range few() {
			x := of(t, n)
			for _, p := range fewPaths() {
				for _, u := range few() {
					proof := prove(t, By(by), u, p)
					for _, v := range fewValues() {
						taken, told := forgedRow(t, by, n, x, p, v, proof)
						if taken {
							takes++
						}
						if told {
							tells++
						}
					}
				}
			}
		}
		if takes == 0 || (tells == 0) != (name == "SHA-256") {
			t.Errorf("%s: %d taken, %d told", name, takes, tells)
		}
	}
}

func TestP5_8NothingToTell(t *testing.T) {
	m := By(nil)
	for _, r := range proofRows() {
		x := of(t, r.n)
		for _, p := range r.paths {
			v, _ := x.At(p)
			proof := prove(t, m, r.n, p)
			for _, w := range append(otherValues(v), v) {
				if a, b, ok := m.Forged(x, p, w, proof); ok || a != nil || b != nil {
					t.Errorf("%.60q, %v: %q, %q, %v", p, w, a, b, ok)
				}
			}
		}
	}
}

// Whatever isn't taken isn't told, even where every text has one sum with every other one.
func TestP5_8NotTakenNotTold(t *testing.T) {
	m, x := By(zeros), of(t, sample())
	for p := range noPaths() {
		if a, b, ok := m.Forged(x, p, api.Value{}, []byte{3, 7, 0, 0}); ok || a != nil || b != nil {
			t.Errorf("%.80q: %q, %q", p, a, b)
		}
	}
	for v, right := range values() {
		if a, b, ok := m.Forged(x, "a", v, []byte{1, 7, 1, 0, 2}); !right && (ok || a != nil || b != nil) {
			t.Errorf("%v: %q, %q", v, a, b)
		}
	}
	proof := prove(t, m, sample(), "d/d/x")
	v, _ := x.At("d/d/x")
	for i := range proof {
		if a, b, ok := m.Forged(x, "d/d/x", v, proof[:i]); ok || a != nil || b != nil {
			t.Errorf("%d bytes: %q, %q", i, a, b)
		}
	}
	for _, more := range [][]byte{{0}, make([]byte, api.MaxProof-len(proof)), make([]byte, api.MaxProof-len(proof)+1)} {
		if _, _, ok := m.Forged(x, "d/d/x", v, slices.Concat(proof, more)); ok {
			t.Errorf("%d bytes behind", len(more))
		}
	}
}

// Two texts alone have one sum: just these two are told, the reckoning's first.
func TestP5_8TwoTextsAlone(t *testing.T) {
	mine, other := dir("", 7, file("a", 1), link("b", 1), dir("c", 7)), dir("", 7, file("a", 2), link("b", 2), dir("c", 5))
	for _, c := range []struct {
		p string
		v api.Value
	}{{"a", other.Kids[0].Value}, {"b", other.Kids[1].Value}, {"c", other.Kids[2].Value}, {"a/q", api.Value{}}, {"bb", api.Value{}}, {"", other.Value}} {
		p := plain{by: sha256.Sum256}
		p.reckon(p.prove(other, namesOf(c.p)), namesOf(c.p), c.v)
		reckoned := p.texts[len(p.texts)-1] // the root's text, which is summed last
		own, _ := plainTexts(sha256.Sum256, mine)
		by := merged(own[len(own)-1], reckoned)
		a, b, ok := By(by).Forged(of(t, mine), c.p, c.v, prove(t, By(by), other, c.p))
		if !ok || string(a) != reckoned || string(b) != own[len(own)-1] {
			t.Errorf("%q: %q, %q, %v", c.p, a, b, ok)
		}
		if taken, told := forgedRow(t, by, mine, of(t, mine), c.p, c.v, prove(t, By(by), other, c.p)); !taken || !told {
			t.Errorf("%q: taken %v, told %v", c.p, taken, told)
		}
	}
}

// Each text of one tree made one with each of the other's, so that the forgery is at the leaf, within the top, or on the way.
func TestP5_8EachTwoTexts(t *testing.T) {
	mine, other := dir("", 7, file("a", 1), dir("c", 7, link("d", 1))), dir("", 7, file("a", 2), dir("c", 7, link("d", 2)))
	a, _ := plainTexts(sha256.Sum256, mine)
	b, _ := plainTexts(sha256.Sum256, other)
	x, tells := of(t, mine), 0
	for _, one := range a {
		for _, two := range b {
			by := merged(one, two)
			for _, p := range []string{"", "a", "b", "c", "c/d", "c/e", "a/q", "c/d/q"} {
				v, _ := of(t, other).At(p)
				if _, told := forgedRow(t, by, mine, x, p, v, prove(t, By(by), other, p)); told {
					tells++
				}
			}
		}
	}
	if tells == 0 {
		t.Error("nothing was told")
	}
}

// A value that isn't there, where there is none, one that is, and another one.
func TestP5_10AnotherValueIsForged(t *testing.T) {
	for name, by := range sums() {
		m, met := By(by), 0
		for _, n := range few() {
			x := of(t, n)
			for _, p := range fewPaths() {
				is, _ := x.At(p)
				for _, u := range few() {
					proof := prove(t, m, u, p)
					for _, v := range fewValues() {
						if v == is || !m.Holds(m.Root(x), p, v, proof) {
							continue
						}
						met++
						if _, _, ok := m.Forged(x, p, v, proof); !ok {
							t.Fatalf("%s: %v, %q, %v, %x", name, n, p, v, proof)
						}
					}
				}
			}
		}
		if (met == 0) != (name == "SHA-256") {
			t.Errorf("%s: %d", name, met)
		}
	}
}

// oneRoot: what P22.5 says of two trees. It tells whether they are unlike and have one hash.
func oneRoot(t *testing.T, by func([]byte) [32]byte, n, u api.Node) bool {
	t.Helper()
	m, x, y := By(by), of(t, n), of(t, u)
	if m.Root(x) != m.Root(y) || tree.Same(x, y, false) {
		return false
	}
	if a, b, ok := m.Clash(x, y); !ok || string(a) == string(b) || by(a) != by(b) {
		t.Fatalf("%v, %v: %q, %q, %v", n, u, a, b, ok)
	}
	return true
}

// shown: what P22.5 says of a proof. It tells whether what is shown isn't there.
func shown(t *testing.T, by func([]byte) [32]byte, n api.Node, p string, v api.Value, proof []byte) bool {
	t.Helper()
	m, x := By(by), of(t, n)
	is, _ := x.At(p)
	if !m.Holds(m.Root(x), p, v, proof) || v == is {
		return false
	}
	if a, b, ok := m.Forged(x, p, v, proof); !ok || string(a) == string(b) || by(a) != by(b) {
		t.Fatalf("%v, %q, %v: %q, %q, %v", n, p, v, a, b, ok)
	}
	return true
}

// blindSums: SHA-256, but that they see nothing of some texts, or of some bytes.
func blindSums() map[string]func([]byte) [32]byte {
	all := map[string]func([]byte) [32]byte{}
	for _, sort := range "FLDNI" {
		all["blind for "+string(sort)] = func(b []byte) [32]byte {
			if rune(b[0]) == sort {
				return [32]byte{byte(sort)}
			}
			return sha256.Sum256(b)
		}
	}
	for _, n := range []int{2, 3, 30} {
		all[fmt.Sprint("the first ", n)] = func(b []byte) [32]byte { return sha256.Sum256(b[:min(n, len(b))]) }
		all[fmt.Sprint("all but ", n)] = func(b []byte) [32]byte { return sha256.Sum256(b[min(n, len(b)):]) }
	}
	return all
}

func TestP22_5OverAnySum(t *testing.T) {
	all := sums()
	maps.Copy(all, blindSums())
	for name, by := range all {
		met := [2]int{}
		for _, n := range few() {
			for _, u := range append(few(), sample(), wide(3)) {
				if oneRoot(t, by, n, u) && oneRoot(t, by, u, n) {
					met[0]++
				}
				for _, p := range fewPaths() {
					proof := prove(t, By(by), u, p)
					for _, v := range fewValues() {
						if shown(t, by, n, p, v, proof) {
							met[1]++
						}
					}
				}
			}
		}
		if none := met == [2]int{}; none != (name == "SHA-256") {
			t.Errorf("%s: %v", name, met)
		}
	}
}
