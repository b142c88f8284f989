package merkle

import (
	"bytes"
	"crypto/sha256"
	"iter"
	"math"
	"math/rand"
	"slices"
	"strings"
	"testing"

	"twine/api"
)

// By a sum that answers zeros alone every proof of the right form holds with the root of zeros, so that what is refused there is refused for its form.

// proofOf: a tree's proof of a path, and all that it goes with.
type proofOf struct {
	root  [32]byte
	p     string
	v     api.Value
	proof []byte
}

// proofs: of the sample and of small trees: each end, with the neighbours that it can have.
func proofs(t testing.TB, by func([]byte) [32]byte) []proofOf {
	m := By(by)
	var l []proofOf
	add := func(n api.Node, paths ...string) {
		x := of(t, n)
		for _, p := range paths {
			v, _ := x.At(p)
			l = append(l, proofOf{m.Root(x), p, v, prove(t, m, n, p)})
		}
	}
	add(sample(), samplePaths()...)
	add(file("", 1), "", "a")
	add(link("", 1), "", "a/b")
	add(dir("", 7), "", "a", "a/b")
	add(wide(5), "n0000", "n0003", "n0004", "n0003.", "a", "z", "n0001/q")
	return l
}

// otherValues: some of which one goes with v's end, and some don't.
func otherValues(v api.Value) []api.Value {
	var l []api.Value
	for _, w := range []api.Value{{}, {Kind: 1}, {Kind: 1, Mode: 7}, {Kind: 2}, {Kind: 3, Size: 1}, {Kind: 3, Size: 4095}, file("", 3).Value, link("", 4).Value} {
		if w != v {
			l = append(l, w)
		}
	}
	w := v
	w.Mode ^= 1
	x := v
	x.Size++
	y := v
	y.Sum[31] ^= 0x80
	return append(l, w, x, y)
}

func TestP5_6OtherValues(t *testing.T) {
	for name, by := range sums() {
		m := By(by)
		for _, x := range proofs(t, by) {
			if !m.Holds(x.root, x.p, x.v, x.proof) {
				t.Errorf("%s: %q: refused", name, x.p)
			}
			for _, v := range otherValues(x.v) {
				want, _ := plainHolds(by, x.root, x.p, v, x.proof)
				if want && name == "SHA-256" {
					t.Errorf("%q: the plain reckoning takes %v", x.p, v)
				}
				if m.Holds(x.root, x.p, v, x.proof) != want {
					t.Errorf("%s: %q, %v: %v", name, x.p, v, !want)
				}
			}
		}
	}
}

func TestP5_6OtherRoots(t *testing.T) {
	m := By(nil)
	for _, x := range proofs(t, nil) {
		for i := range x.root {
			root := x.root
			root[i] ^= 1 << (i % 8)
			if m.Holds(root, x.p, x.v, x.proof) {
				t.Errorf("%q: taken with another root", x.p)
			}
		}
		if m.Holds([32]byte{}, x.p, x.v, x.proof) {
			t.Errorf("%q: taken with zeros", x.p)
		}
	}
}

func TestP5_6OtherPaths(t *testing.T) {
	m, l := By(nil), proofs(t, nil)
	for _, x := range l {
		for _, y := range l {
			want, _ := plainHolds(sha256.Sum256, x.root, y.p, x.v, x.proof)
			if m.Holds(x.root, y.p, x.v, x.proof) != want {
				t.Errorf("%q's proof for %q: %v", x.p, y.p, !want)
			}
		}
	}
	x := l[slices.IndexFunc(l, func(x proofOf) bool { return x.p == "d/d/x" })]
	for _, p := range []string{"", "d", "d/d", "d/d/y", "d/d/x/x", "x/d/d", "d/d/", "d/d/x/"} {
		if m.Holds(x.root, p, x.v, x.proof) {
			t.Errorf("taken for %q", p)
		}
	}
}

// Whatever one byte becomes: by SHA-256 no such proof holds, by zeros those that are of the form.
func TestP5_6EachByteChanged(t *testing.T) {
	for _, x := range proofs(t, nil) {
		for b := range changedProofs(x.proof) {
			if By(nil).Holds(x.root, x.p, x.v, b) {
				t.Fatalf("%q: %x", x.p, b)
			}
		}
	}
	for _, x := range proofs(t, zeros) {
		for b := range changedProofs(x.proof) {
			want, _ := plainHolds(zeros, x.root, x.p, x.v, b)
			if By(zeros).Holds(x.root, x.p, x.v, b) != want {
				t.Fatalf("zeros: %q: %x: %v", x.p, b, !want)
			}
		}
	}
}

// changedProofs: each byte changed, in a short proof to all that it can be, in a long one to some of that.
func changedProofs(proof []byte) iter.Seq[[]byte] {
	return func(yield func([]byte) bool) {
		for i := range proof {
			for d := 1; d < 256; d++ {
				if len(proof) > 80 && d&(d-1) != 0 && d&(d+1) != 0 {
					continue
				}
				b := bytes.Clone(proof)
				b[i] ^= byte(d)
				if !yield(b) {
					return
				}
			}
		}
	}
}

func TestP5_6CutShort(t *testing.T) {
	for _, by := range []func([]byte) [32]byte{zeros, sha256.Sum256} {
		for _, x := range proofs(t, by) {
			for i := range x.proof {
				if By(by).Holds(x.root, x.p, x.v, x.proof[:i]) {
					t.Errorf("%q: %d of %d bytes", x.p, i, len(x.proof))
				}
			}
			if By(by).Holds(x.root, x.p, x.v, nil) {
				t.Errorf("%q: no bytes", x.p)
			}
		}
	}
}

func TestP5_6BytesBehind(t *testing.T) {
	for _, by := range []func([]byte) [32]byte{zeros, sha256.Sum256} {
		for _, x := range proofs(t, by) {
			for c := range 256 {
				if By(by).Holds(x.root, x.p, x.v, slices.Concat(x.proof, []byte{byte(c)})) {
					t.Errorf("%q: taken with %d behind", x.p, c)
				}
			}
			for _, more := range [][]byte{make([]byte, 32), x.proof, {2}, {3, 7, 0, 0}} {
				if By(by).Holds(x.root, x.p, x.v, slices.Concat(x.proof, more)) {
					t.Errorf("%q: taken with %x behind", x.p, more)
				}
			}
		}
	}
}

// formRow: a proof that by zeros holds, or doesn't, for its form alone.
type formRow struct {
	p    string
	v    api.Value
	b    string
	want bool
}

func checkForms(t *testing.T, rows []formRow) {
	t.Helper()
	for i, r := range rows {
		if By(zeros).Holds([32]byte{}, r.p, r.v, []byte(r.b)) != r.want {
			t.Errorf("row %d: %.40q, %v, %.60x: %v", i, r.p, r.v, r.b, !r.want)
		}
	}
}

func z(sums int) string { return strings.Repeat("\x00", 32*sums) }

func TestP5_6LongerForms(t *testing.T) {
	none, f, d := api.Value{}, file("", 1).Value, dir("", 7).Value
	checkForms(t, []formRow{
		{"a", f, "\x01\x07\x01\x00\x02", true},
		{"a", f, "\x81\x00\x07\x01\x00\x02", false},
		{"a", f, "\x01\x87\x00\x01\x00\x02", false},
		{"a", f, "\x01\x07\x81\x00\x00\x02", false},
		{"a", f, "\x01\x07\x01\x80\x00\x02", false},
		{"a", f, "\x01\x07\x01\x80\x80\x00\x02", false},
		{"a", f, "\x01\x07\x01\x00\x82\x00", false},
		{"", d, "\x02\x00" + z(1), true},
		{"", d, "\x02\x80\x00" + z(1), false},
		{"", d, "\x02\x80\x01" + z(1), true},
		{"", d, "\x02\x80\x81\x00" + z(1), false},
		{"b", none, "\x03\x07\x02\x01\x01a" + z(2) + "\x01c" + z(2), true},
		{"b", none, "\x03\x87\x00\x02\x01\x01a" + z(2) + "\x01c" + z(2), false},
		{"b", none, "\x03\x07\x82\x00\x01\x01a" + z(2) + "\x01c" + z(2), false},
		{"b", none, "\x03\x07\x02\x81\x00\x01a" + z(2) + "\x01c" + z(2), false},
		{"b", none, "\x03\x07\x02\x01\x81\x00a" + z(2) + "\x01c" + z(2), false},
		{"b", none, "\x03\x07\x02\x01\x01a" + z(2) + "\x81\x00c" + z(2), false},
		{"b", none, "\x04\x02\x06\x01" + z(1), true},
		{"b", none, "\x04\x82\x00\x06\x01" + z(1), false},
		{"b", none, "\x04\x02\x86\x00\x01" + z(1), false},
		{"b", none, "\x04\x02\x06\x81\x00" + z(1), false},
		{"b", none, "\x04\x03\x01" + z(1), true},
		{"b", none, "\x04\x03\x81\x00" + z(1), false},
	})
}

// Numbers that are too great, up to those that wrap round an int.
func TestP5_6GreatNumbers(t *testing.T) {
	none, f, d := api.Value{}, file("", 1).Value, dir("", 7).Value
	for _, n := range []uint64{math.MaxInt64, 1 << 63, math.MaxUint64, math.MaxUint64 - 6, 1 << 32, 1<<32 + 1} {
		g := uvar64(n)
		checkForms(t, []formRow{
			{"a", f, "\x01" + g + "\x01\x00\x02", false}, {"a", f, "\x01\x07" + g + "\x00\x02", false}, {"a", f, "\x01\x07\x01" + g + "\x02", false},
			{"", d, "\x02" + g + z(1), false}, {"a", none, "\x03" + g + "\x00\x00", false}, {"a", none, "\x03\x07" + g + "\x00", false},
			{"a", none, "\x03\x07" + g + g, false}, {"a", none, "\x03\x07\x00" + g, false}, {"b", none, "\x03\x07\x01" + g + "\x01a" + z(1), false},
			{"b", none, "\x03\x07\x01\x01" + g + "a" + z(1), false}, {"b", none, "\x04" + g + "\x06\x01" + z(1), false}, {"b", none, "\x04\x02" + g + "\x01" + z(1), false},
		})
		if n > api.MaxSize {
			checkForms(t, []formRow{{"b", none, "\x04\x02\x06" + g + z(1), false}, {"b", none, "\x04\x03" + g + z(1), false}})
		}
	}
}

func TestP5_6Modes(t *testing.T) {
	none, f := api.Value{}, file("", 1).Value
	for mode := range 12 {
		c, ok := string(rune(mode)), mode <= 8
		checkForms(t, []formRow{
			{"a", f, "\x01" + c + "\x01\x00\x02", ok}, {"a/b", f, "\x01\x07\x01\x00\x01" + c + "\x01\x00\x02", ok},
			{"a", none, "\x03" + c + "\x00\x00", ok}, {"b", none, "\x03" + c + "\x01\x01\x01a" + z(1), ok}, {"b", none, "\x04\x02" + c + "\x01" + z(1), ok},
		})
	}
}

func TestP5_6Counts(t *testing.T) {
	none, f, d := api.Value{}, file("", 1).Value, dir("", 7).Value
	for count, ok := range map[int]bool{api.MaxNodes: true, api.MaxNodes - 1: true, api.MaxNodes + 1: false, api.MaxNodes * 2: false} {
		n := uvar("", count)
		high := halvings(count) // of the first child, and of the last one, if the count is a power of two
		rows := []formRow{
			{"a", f, "\x01\x07" + n + "\x00" + z(high) + "\x02", ok}, {"", d, "\x02" + n + z(1), ok},
			{"a", none, "\x03\x07" + n + "\x00\x01b" + z(1+high), ok},
		}
		if count&(count-1) == 0 {
			rows = append(rows, formRow{"a", f, "\x01\x07" + n + uvar("", count-1) + z(high) + "\x02", ok}, formRow{"b", none, "\x03\x07" + n + n + "\x01a" + z(1+high), ok})
		}
		checkForms(t, rows)
	}
}

func TestP5_6Places(t *testing.T) {
	f := file("", 1).Value
	high := [][]int{nil, {0}, {1, 1}, {2, 2, 1}, {2, 2, 2, 2}, {3, 3, 3, 3, 1}, nil, {3, 3, 3, 3, 3, 3, 2}, {3, 3, 3, 3, 3, 3, 3, 3}, {4, 4, 4, 4, 4, 4, 4, 4, 1}}
	for count, l := range high {
		if count > 0 && l == nil {
			continue
		}
		for place := range count + 3 {
			for sums := range 6 {
				b := uvar(uvar("\x01\x07", count), place) + z(sums) + "\x02"
				checkForms(t, []formRow{{"a", f, b, place < count && sums == l[min(place, count-1)]}})
			}
		}
	}
}

// A proof of a directory that is empty.
func TestP5_6TopBesideNoChildren(t *testing.T) {
	d := dir("", 7).Value
	rows := []formRow{{"", d, "\x02\x00" + z(1), true}, {"a", d, "\x01\x07\x01\x00\x02\x00" + z(1), true}}
	for i := range 32 {
		top := []byte(z(1))
		top[i] = 1
		rows = append(rows, formRow{"", d, "\x02\x00" + string(top), false}, formRow{"", d, "\x02\x01" + string(top), true},
			formRow{"a", d, "\x01\x07\x01\x00\x02\x00" + string(top), false}, formRow{"a", d, "\x01\x07\x01\x00\x02\x03" + string(top), true})
	}
	checkForms(t, rows)
}

func TestP5_6HowManyStandAhead(t *testing.T) {
	none := api.Value{}
	ahead, behind := "\x01a"+z(1), "\x01c"+z(1)
	checkForms(t, []formRow{
		{"b", none, "\x03\x07\x00\x00", true},
		{"b", none, "\x03\x07\x00\x01", false},
		{"b", none, "\x03\x07\x00\x01" + ahead, false},
		{"b", none, "\x03\x07\x01\x00" + behind, true},
		{"b", none, "\x03\x07\x01\x01" + ahead, true},
		{"b", none, "\x03\x07\x01\x01" + ahead + behind, false},
		{"b", none, "\x03\x07\x01\x02" + ahead, false},
		{"b", none, "\x03\x07\x01\x02", false},
		{"b", none, "\x03\x07\x02\x00" + behind + z(1), true},
		{"b", none, "\x03\x07\x02\x01" + ahead + z(1) + behind + z(1), true},
		{"b", none, "\x03\x07\x02\x01" + ahead + z(1), false},
		{"b", none, "\x03\x07\x02\x01" + behind + z(1), false},
		{"b", none, "\x03\x07\x02\x01" + behind + z(1) + ahead + z(1), false},
		{"b", none, "\x03\x07\x02\x02" + ahead + z(1), true},
		{"b", none, "\x03\x07\x02\x03" + ahead + z(1), false},
		{"b", none, "\x03\x07\x03\x02" + ahead + z(2) + behind + z(1), true},
		{"b", none, "\x03\x07\x03\x02" + ahead + z(2) + behind + z(2), false},
		{"b", none, "\x03\x07\x03\x01" + ahead + z(2) + behind + z(2), true},
	})
}

func TestP5_6ToldNames(t *testing.T) {
	none := api.Value{}
	side := func(name string) string { return plainText(name) + z(1) }
	for name, ok := range map[string][2]bool{
		"a": {true, false}, "b": {false, false}, "c": {false, true}, "": {}, ".": {}, "..": {}, "...": {true, false}, "a/b": {}, "c/b": {}, "/": {}, "c/": {}, "a\x00": {}, "c\x00": {}, "bb": {false, true}, "b.": {false, true}, "B": {true, false}, "\xff": {false, true},
		strings.Repeat("a", 255): {true, false}, strings.Repeat("a", 256): {}, strings.Repeat("c", 255): {false, true}, strings.Repeat("c", 256): {},
	} {
		checkForms(t, []formRow{
			{"b", none, "\x03\x07\x01\x01" + side(name), ok[0]}, {"b", none, "\x03\x07\x01\x00" + side(name), ok[1]},
			{"b", none, "\x03\x07\x02\x01" + side(name) + z(1) + side("c") + z(1), ok[0]}, {"b", none, "\x03\x07\x02\x01" + side("a") + z(1) + side(name) + z(1), ok[1]},
			{"a/b", none, "\x01\x07\x01\x00\x03\x07\x01\x01" + side(name), ok[0]}, {"b/a", none, "\x03\x07\x01\x00" + side(name), ok[1]},
		})
	}
}

// Two neighbours, each of which alone would give the root, but not one top.
func TestP5_6NeighboursGiveOneTop(t *testing.T) {
	n := dir("", 7, file("a", 1), file("c", 1))
	m, x := By(nil), of(t, n)
	good := (&plain{by: sha256.Sum256}).prove(n, []string{"b"})
	if !m.Holds(m.Root(x), "b", api.Value{}, good.bytes()) {
		t.Fatal("the right one is refused")
	}
	for i := range good.sides {
		for _, other := range []toldSide{{good.sides[i].name + "\x01", good.sides[i].hash, good.sides[i].siblings}, {good.sides[i].name, z(1), good.sides[i].siblings}, {good.sides[i].name, good.sides[i].hash, z(1)}} {
			bad := good
			bad.sides = slices.Clone(good.sides)
			bad.sides[i] = other
			if m.Holds(m.Root(x), "b", api.Value{}, bad.bytes()) {
				t.Errorf("side %d: taken", i)
			}
		}
	}
	// By a sum that answers the same for every directory, the tops alone tell them apart; and there is something to tell, but nothing is taken.
	for _, same := range [][32]byte{{}, {5}} {
		blind := By(func(b []byte) [32]byte {
			switch b[0] {
			case 'D':
				return same
			case 'N':
				return sha256.Sum256(b[:3])
			}
			return sha256.Sum256(b)
		})
		good := (&plain{by: blind.by}).prove(n, []string{"b"})
		bad := good
		bad.sides = slices.Clone(good.sides)
		bad.sides[1].siblings = z(1)
		if !blind.Holds(same, "b", api.Value{}, good.bytes()) || blind.Holds(same, "b", api.Value{}, bad.bytes()) {
			t.Error("two tops are taken, or one isn't")
		}
		if _, _, ok := blind.Forged(of(t, dir("", 5, file("a", 2))), "b", api.Value{}, bad.bytes()); ok {
			t.Error("what isn't taken is told as forged")
		}
	}
}

func TestP5_6EndsGoWithTheValue(t *testing.T) {
	values := []api.Value{{}, dir("", 7).Value, file("", 1).Value, link("", 1).Value}
	for _, v := range values {
		there := v.Kind != 0
		found := "\x02"
		if v.Kind == api.Dir {
			found += "\x01" + z(1)
		}
		step := "\x01\x07\x01\x00"
		checkForms(t, []formRow{
			{"", v, found, there}, {"a", v, step + found, there}, {"a", v, found, false}, {"a/b", v, step + found, false}, {"", v, step + found, false}, {"a", v, step + step + found, false},
			{"", v, "\x03\x07\x00\x00", false}, {"a", v, "\x03\x07\x00\x00", !there}, {"a/b", v, "\x03\x07\x00\x00", !there}, {"a", v, step + "\x03\x07\x00\x00", false}, {"a/b", v, step + "\x03\x07\x00\x00", !there},
			{"", v, "\x04\x02\x06\x01" + z(1), false}, {"a", v, "\x04\x02\x06\x01" + z(1), !there}, {"a", v, step + "\x04\x02\x06\x01" + z(1), false}, {"a/b", v, step + "\x04\x02\x06\x01" + z(1), !there},
			{"", v, "", false}, {"a", v, step, false}, {"", v, "\x00", false}, {"", v, "\x05", false}, {"a", v, "\x00", false}, {"a", v, "\x05", false}, {"a", v, step + "\x05", false},
		})
		for _, w := range values[1:] { // what the end 2 tells hangs on the value's kind
			other := "\x02"
			if w.Kind == api.Dir {
				other += "\x01" + z(1)
			}
			checkForms(t, []formRow{{"", v, other, there && (v.Kind == api.Dir) == (w.Kind == api.Dir)}})
		}
	}
}

func TestP5_6WhatTheEnd4Tells(t *testing.T) {
	none := api.Value{}
	checkForms(t, []formRow{
		{"a", none, "\x04\x00" + z(1), false}, {"a", none, "\x04\x00\x00" + z(1), false}, {"a", none, "\x04\x01\x07" + z(1), false}, {"a", none, "\x04\x01\x07\x00" + z(1), false}, {"a", none, "\x04\x04\x01" + z(1), false}, {"a", none, "\x04\x04\x06\x01" + z(1), false},
		{"a", none, "\x04\x02\x00\x00" + z(1), true}, {"a", none, "\x04\x02\x08" + uvar("", api.MaxSize) + z(1), true}, {"a", none, "\x04\x02\x08" + uvar("", api.MaxSize+1) + z(1), false}, {"a", none, "\x04\x02\x01" + z(1), false},
		{"a", none, "\x04\x03\x00" + z(1), false}, {"a", none, "\x04\x03\x01" + z(1), true}, {"a", none, "\x04\x03\xff\x1f" + z(1), true}, {"a", none, "\x04\x03\x80\x20" + z(1), false}, {"a", none, "\x04\x03\x00\x01" + z(1), false},
	})
}

func TestP5_6NoPath(t *testing.T) {
	f := file("", 1).Value
	for p := range noPaths() {
		names := strings.Count(p, "/") + 1
		checkForms(t, []formRow{
			{p, f, strings.Repeat("\x01\x07\x01\x00", names) + "\x02", false}, {p, f, "\x02", false},
			{p, api.Value{}, "\x03\x07\x00\x00", false}, {p, api.Value{}, "\x04\x02\x06\x01" + z(1), false},
		})
	}
	q64 := strings.TrimSuffix(strings.Repeat("q/", 64), "/")
	checkForms(t, []formRow{{q64, f, strings.Repeat("\x01\x07\x01\x00", 64) + "\x02", true}, {strings.Repeat("q", 255), f, "\x01\x07\x01\x00\x02", true}})
}

// No proof of the form is so long as MaxProof; the longest one is taken.
func TestP5_6MaxProof(t *testing.T) {
	f, n := file("", 1).Value, uvar("", api.MaxNodes)
	q := strings.Repeat("q/", 63) + "q"
	step := "\x01\x07" + n + uvar("", api.MaxNodes-1) + z(20)
	side := func(c string) string { return plainText(strings.Repeat(c, 255)) + z(21) }
	whole, gap := strings.Repeat(step, 64)+"\x02", strings.Repeat(step, 63)+"\x03\x07"+n+uvar("", api.MaxNodes/2)+side("a")+side("r")
	rows := []formRow{{q, f, whole, true}, {q, api.Value{}, gap, true}}
	for _, size := range []int{api.MaxProof - 1, api.MaxProof, api.MaxProof + 1, 2 * api.MaxProof} {
		rows = append(rows, formRow{q, f, whole + strings.Repeat("\x00", size-len(whole)), false}, formRow{q, api.Value{}, gap + strings.Repeat("\x01", size-len(gap)), false},
			formRow{q, f, strings.Repeat("\x00", size), false}, formRow{q, f, strings.Repeat(step, size/len(step)+1)[:size-1] + "\x02", false}, formRow{q, f, strings.Repeat("\x01\x07\x01\x00", size/4+1)[:size-1] + "\x02", false})
	}
	checkForms(t, rows)
}

// values: those at the edges of P5.7, and right past them.
func values() map[api.Value]bool {
	s := [32]byte{31: 1}
	return map[api.Value]bool{
		{}: true, {Mode: 1}: false, {Mode: -1}: false, {Size: 1}: false, {Size: -1}: false, {Sum: s}: false, {Mode: 8}: false,
		{Kind: 1}: true, {Kind: 1, Mode: 8}: true, {Kind: 1, Mode: 9}: false, {Kind: 1, Mode: -1}: false, {Kind: 1, Size: 1}: false, {Kind: 1, Size: -1}: false, {Kind: 1, Sum: s}: false,
		{Kind: 2}: true, {Kind: 2, Mode: 8, Size: api.MaxSize, Sum: s}: true, {Kind: 2, Mode: 9}: false, {Kind: 2, Mode: -1}: false, {Kind: 2, Size: api.MaxSize + 1}: false, {Kind: 2, Size: -1}: false, {Kind: 2, Mode: math.MaxInt}: false, {Kind: 2, Size: math.MinInt}: false,
		{Kind: 3}: false, {Kind: 3, Size: 1}: true, {Kind: 3, Size: 4095, Sum: s}: true, {Kind: 3, Size: 4096}: false, {Kind: 3, Mode: 1, Size: 1}: false, {Kind: 3, Mode: 8, Size: 1}: false, {Kind: 3, Size: -1}: false, {Kind: 3, Mode: -1, Size: 1}: false,
		{Kind: 4}: false, {Kind: 4, Size: 1}: false, {Kind: -1}: false, {Kind: 256}: false, {Kind: 257}: false, {Kind: 258}: false, {Kind: math.MaxInt}: false, {Kind: math.MinInt}: false,
	}
}

func TestP5_7Values(t *testing.T) {
	for v, ok := range values() {
		some := false
		for _, b := range []string{"\x02", "\x02\x00" + z(1), "\x03\x07\x00\x00", "\x04\x02\x06\x01" + z(1)} {
			some = some || By(zeros).Holds([32]byte{}, "", v, []byte(b)) || By(zeros).Holds([32]byte{}, "a", v, []byte(b)) || By(zeros).Holds([32]byte{}, "a", v, []byte("\x01\x07\x01\x00"+b))
		}
		if some != ok {
			t.Errorf("%v: %v", v, some)
		}
	}
}

// Proofs that are pieced together by chance: Holds takes just those that the plain reckoning takes.
func TestP5_6ByChance(t *testing.T) {
	r := rand.New(rand.NewSource(5))
	for name, by := range map[string]func([]byte) [32]byte{"zeros": zeros, "lengths": lengths, "1 bit": weak(1), "2 bits": weak(2)} {
		l, m, taken := proofs(t, by), By(by), 0
		for range 20000 {
			x, y := l[r.Intn(len(l))], l[r.Intn(len(l))]
			b := spoiled(r, x.proof, y.proof)
			v := x.v
			if r.Intn(4) == 0 {
				v = y.v
			}
			want, _ := plainHolds(by, x.root, x.p, v, b)
			if want {
				taken++
			}
			if m.Holds(x.root, x.p, v, b) != want {
				t.Fatalf("%s: %q, %v, %x: %v", name, x.p, v, b, !want)
			}
		}
		if taken < 500 {
			t.Errorf("%s: %d alone were taken", name, taken)
		}
	}
}

// spoiled: a proof with a few changes.
func spoiled(r *rand.Rand, b, other []byte) []byte {
	b = bytes.Clone(b)
	for range 1 + r.Intn(3) {
		i := r.Intn(len(b) + 1)
		switch r.Intn(6) {
		case 0:
			b = slices.Insert(b, i, byte(r.Intn(10)))
		case 1:
			b = slices.Delete(b, i, min(i+1, len(b)))
		case 2:
			b = append(b[:i:i], other[min(i, len(other)):]...)
		default:
			if i < len(b) {
				b[i] ^= byte(1 << r.Intn(8))
			}
		}
	}
	return b
}
