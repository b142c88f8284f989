package patch

import (
	"crypto/sha256"
	"fmt"
	"math"
	"testing"

	"twine/api"
	"twine/codec"
	"twine/merkle"
	"twine/tree"
)

func TestP8_1Holds(t *testing.T) {
	for what, n := range roots() {
		for name, sum := range sums() {
			x := made(t, n, nodes(n), sum)
			alike(t, what+", "+name, told(x), plainly(of(t, n), sum))
		}
	}
}

// The errors are Encode's: over roots of each kind and bounds about the number of nodes.
func TestP8_1Refused(t *testing.T) {
	l := roots()
	l["a file"] = file("", 6, 5, 4, 3, 2, 1)
	l["a link"] = link("", 5)
	for what, n := range l {
		x, count := of(t, n), nodes(n)
		for _, most := range []int{math.MinInt, -1, 0, 1, 2, count - 1, count, count + 1, api.MaxNodes, api.MaxNodes + 1, math.MaxInt} {
			_, want := codec.Encode(x, 3, most)
			got, e := New(x, most, nil)
			if e != want || (got == nil) != (want != api.OK) {
				t.Errorf("%s, most %d: %v, want %v", what, most, e, want)
			}
		}
	}
}

func TestP8_1Bounds(t *testing.T) {
	for _, c := range []struct {
		what string
		n    api.Node
		most int
		want api.Errno
	}{
		{"the root alone, 1", dir("", 7), 1, api.OK},
		{"the root alone, 0: counts as 1", dir("", 7), 0, api.OK},
		{"the root alone, below 0", dir("", 7), -5, api.OK},
		{"two nodes, 1", dir("", 7, file("a", 6, 1)), 1, api.ErrCodecBounds},
		{"two nodes, 0", dir("", 7, file("a", 6, 1)), 0, api.ErrCodecBounds},
		{"two nodes, 2", dir("", 7, file("a", 6, 1)), 2, api.OK},
		{"five nodes, one less", four(), 4, api.ErrCodecBounds},
		{"five nodes, just as many", four(), 5, api.OK},
		{"a file", file("", 6, 1), 9, api.ErrCodecRoot},
		{"a link", link("", 6), 9, api.ErrCodecRoot},
		{"a file, 0", file("", 6, 1), 0, api.ErrCodecRoot},
	} {
		x, e := New(of(t, c.n), c.most, nil)
		if e != c.want || (x == nil) != (c.want != api.OK) {
			t.Errorf("%s: %v, want %v", c.what, e, c.want)
		}
	}
}

// doubled: a tree of 2^levels - 1 nodes, most of them directories of two.
func doubled(t *testing.T, levels int) *tree.Tree {
	x := of(t, file("", 6, 1))
	for range levels - 1 {
		above := of(t, dir("", 7))
		for _, name := range []string{"a", "b"} {
			above, _ = above.Put(name, x)
		}
		x = above
	}
	return x
}

// A most above MaxNodes counts as MaxNodes; so many nodes are held, one more isn't.
func TestP8_1MaxNodes(t *testing.T) {
	const files, dirs = 1 << 19, 1<<19 - 2 // and a root and a link
	full, e := doubled(t, 20).Put("c", of(t, link("", 1)))
	if e != api.OK || full.Count() != api.MaxNodes {
		t.Fatalf("%d nodes, %v", full.Count(), e)
	}
	calls := 0
	sum := func(b []byte) [32]byte { calls++; return [32]byte{b[len(b)-1], byte(len(b))} }
	x, e := New(full, math.MaxInt, sum)
	if e != api.OK {
		t.Fatalf("MaxNodes nodes: %v", e)
	}
	if most := files + 4*dirs + 6 + 1; calls > most {
		t.Errorf("P8.4: %d calls, at most %d", calls, most)
	}
	if got, want := len(x.Bytes()), 8+files*41+dirs*37+35+36+4; got != want {
		t.Errorf("P8.3: %d bytes, want %d", got, want)
	}
	calls = 0
	for p, want := range map[string]api.Errno{"d": api.ErrCodecBounds, "a/c": api.ErrCodecBounds, "c/d": api.ErrTreeWay} {
		if e := x.Replace(p, of(t, link("", 1))); e != want || calls > 0 {
			t.Errorf("one more, at %s: %v, %d calls", p, e, calls)
		}
	}
	more, _ := full.Put("d", of(t, link("", 1)))
	if e := x.Replace("", more); e != api.ErrCodecBounds || calls > 0 {
		t.Errorf("Replace by MaxNodes + 1 nodes: %v, %d calls", e, calls)
	}
	for _, most := range []int{api.MaxNodes, api.MaxNodes + 1, math.MaxInt} {
		if x, e := New(more, most, sum); x != nil || e != api.ErrCodecBounds || calls > 0 {
			t.Errorf("MaxNodes + 1 nodes, most %d: %v, %d calls", most, e, calls)
		}
	}
}

// A tree that has one subtree at very many places is refused at once.
func TestP8_1FarTooMany(t *testing.T) {
	huge := doubled(t, 64)
	if x, e := New(huge, math.MaxInt, nil); x != nil || e != api.ErrCodecBounds {
		t.Errorf("New: %v", e)
	}
	x := made(t, four(), math.MaxInt, nil)
	before := told(x)
	if e := x.Replace("", huge); e != api.ErrCodecBounds {
		t.Errorf("Replace: %v", e)
	}
	alike(t, "behind it", told(x), before)
}

// nil counts as SHA-256.
func TestP8_1NilSum(t *testing.T) {
	for what, n := range roots() {
		x := made(t, n, api.MaxNodes, nil)
		alike(t, what, told(x), plainly(of(t, n), sha256.Sum256))
		for i := range 3 {
			p := fmt.Sprint("~", i)
			if e := x.Replace(p, of(t, some())); e != api.OK && e != api.ErrTreeDeep {
				t.Errorf("%s: Replace: %v", what, e)
			}
			alike(t, what+", more", told(x), plainly(x.Tree(), sha256.Sum256))
		}
	}
}

func TestP8_3EncodeAndRoot(t *testing.T) {
	for what, n := range roots() {
		x := made(t, n, api.MaxNodes, nil)
		want, e := codec.Encode(of(t, n), 3, api.MaxNodes)
		if e != api.OK || string(x.Bytes()) != string(want) {
			t.Errorf("%s: not Encode's bytes", what)
		}
		for name, sum := range sums() {
			if made(t, n, api.MaxNodes, sum).Root() != merkle.By(sum).Root(of(t, n)) {
				t.Errorf("%s, %s: not merkle's root", what, name)
			}
		}
	}
}

// Each hash in the bytes is by the sum, and the file's own sum is that of such bytes: by a sum of our own the root alone reads so.
func TestP8_3HashBySum(t *testing.T) {
	x := made(t, dir("", 7), 1, func(b []byte) [32]byte { return [32]byte{0: 0xAA, 31: 0xBB} })
	want := "twne\x03\x01\x01\x07\x00\xaa" + string(make([]byte, 30)) + "\xbb"
	b := string(x.Bytes())
	if len(b) != len(want)+4 || b[:len(want)] != want {
		t.Errorf("%x, want %x and a sum", b, want)
	}
	if _, _, err := codec.Decode([]byte(b), 1); err == nil || err.(*api.Fault).Err != api.ErrCodecHash {
		t.Errorf("its own sum is wrong: %v", err)
	}
}
