package codec

import (
	"bytes"
	"fmt"
	"math"
	"strings"
	"testing"

	"twine/api"
	"twine/merkle"
	"twine/tree"
)

// mustEncode: Encode, which must answer OK.
func mustEncode(t testing.TB, n api.Node, version, most int) []byte {
	t.Helper()
	b, e := Encode(of(t, n), version, most)
	if e != api.OK {
		t.Fatalf("Encode in version %d, most %d: %d", version, most, e)
	}
	return b
}

func noBytes(t *testing.T, what string, x *tree.Tree, version, most int, want api.Errno) {
	t.Helper()
	if b, e := Encode(x, version, most); e != want || b != nil {
		t.Errorf("%s: % X, %d, want %d", what, b, e, want)
	}
}

func TestP6_Example1(t *testing.T) {
	root := dir("", 7)
	h := merkle.By(nil).Root(of(t, root))
	want := append([]byte{0x74, 0x77, 0x6E, 0x65, 3, 1, 1, 7, 0}, h[:]...)
	b := mustEncode(t, root, 3, 9)
	if !bytes.Equal(b, sealed(want)) || len(b) != 45 {
		t.Errorf("version 3: % X", b)
	}
	h = merkle.By(nil).Root(of(t, dir("", api.Unknown)))
	want = append([]byte{0x74, 0x77, 0x6E, 0x65, 1, 1, 1, 0}, h[:]...)
	if b := mustEncode(t, root, 1, 9); !bytes.Equal(b, sealed(want)) {
		t.Errorf("version 1: % X", b)
	}
}

// One file, byte by byte, as DOC.md says it.
func TestP6_1BytesWrittenOut(t *testing.T) {
	f := file("fg", 6, 300, 4, 200, 0, 0)
	n := dir("", 7, dir("d", 5, f), link("l", 3))
	l := n.Kids[1].Value.Sum
	unknown := projected(n, 1)
	for version, want := range [][]byte{
		1: bytes.Join([][]byte{{1, 4},
			{1, 2}, hashOf(unknown),
			{1, 1, 'd', 1}, hashOf(unknown.Kids[0]),
			{2, 2, 'f', 'g', 0xAC, 2}, f.Value.Sum[:],
			{3, 1, 'l', 3}, l[:]}, nil),
		2: bytes.Join([][]byte{{2, 4},
			{1, 7, 2}, hashOf(n),
			{1, 1, 'd', 5, 1}, hashOf(n.Kids[0]),
			{2, 2, 'f', 'g', 0xAC, 2}, f.Value.Sum[:], {6},
			{3, 1, 'l', 3}, l[:]}, nil),
		3: bytes.Join([][]byte{{3, 4},
			{1, 7, 2}, hashOf(n),
			{1, 1, 'd', 5, 1}, hashOf(n.Kids[0]),
			{2, 2, 'f', 'g', 0xAC, 2}, f.Value.Sum[:], {6, 4, 0xC8, 1, 0, 0},
			{3, 1, 'l', 3}, l[:]}, nil),
	} {
		if version == 0 {
			continue
		}
		want = sealed(append([]byte("twne"), want...))
		if got := mustEncode(t, n, version, 4); !bytes.Equal(got, want) {
			t.Errorf("version %d:\n% X, want\n% X", version, got, want)
		}
	}
}

func TestP6_1PlainBytes(t *testing.T) {
	for name, n := range samples() {
		for version := 1; version <= 3; version++ {
			want := laid(version, itemsOf(projected(n, version), version))
			if got := mustEncode(t, n, version, api.MaxNodes); !bytes.Equal(got, want) {
				t.Errorf("%s, version %d:\n% X, want\n% X", name, version, got, want)
			}
		}
	}
}

// A tree has one form, however it was made.
func TestP6_1HoweverItWasMade(t *testing.T) {
	n := sample(dir("", 2, file("q", 1, 1)))
	x := of(t, dir("", 0))
	var add func(n api.Node, p string)
	add = func(n api.Node, p string) {
		kids := n.Kids
		n.Kids = nil
		var e api.Errno
		if x, e = x.Put(p, of(t, n)); e != api.OK {
			t.Fatal(e)
		}
		for i := range kids { // from the last on
			k := kids[len(kids)-1-i]
			add(k, below(p, k.Name))
		}
	}
	add(n, "")
	x, _ = x.Put("extra", x)
	x, _ = x.Drop("extra")
	for version := 1; version <= 3; version++ {
		got, e := Encode(x, version, 99)
		if e != api.OK || !bytes.Equal(got, mustEncode(t, n, version, 99)) {
			t.Errorf("version %d: %d, other bytes", version, e)
		}
	}
}

func TestP6_1Version(t *testing.T) {
	x := of(t, dir("", 7))
	for _, version := range []int{0, 4, -1, -3, 5, 255, 256 + 1, 1<<32 + 1, math.MinInt, math.MaxInt} {
		noBytes(t, fmt.Sprint("version ", version), x, version, 9, api.ErrCodecVersion)
	}
	for version := 1; version <= 3; version++ {
		if b := mustEncode(t, dir("", 7), version, 9); b[4] != byte(version) {
			t.Errorf("version %d: % X", version, b)
		}
	}
}

func TestP6_1Root(t *testing.T) {
	for version := 1; version <= 3; version++ {
		noBytes(t, "a file", of(t, file("", 6, 1, 1, 1, 0, 0)), version, 9, api.ErrCodecRoot)
		noBytes(t, "a link", of(t, link("", 1)), version, 9, api.ErrCodecRoot)
	}
}

func TestP6_1Bounds(t *testing.T) {
	n := sample(link("", 1))
	count := of(t, n).Count()
	if count != countOf(n) {
		t.Fatal(count)
	}
	for version := 1; version <= 3; version++ {
		for _, most := range []int{count, count + 1, api.MaxNodes, api.MaxNodes + 1, math.MaxInt} {
			mustEncode(t, n, version, most)
		}
		for _, most := range []int{count - 1, 2, 1, 0, -1, -count, math.MinInt} {
			noBytes(t, fmt.Sprint("most ", most), of(t, n), version, most, api.ErrCodecBounds)
		}
		// Below 1 most counts as 1: the root alone may be.
		for _, most := range []int{1, 0, -1, math.MinInt} {
			mustEncode(t, dir("", 7), version, most)
			noBytes(t, fmt.Sprint("two nodes, most ", most), of(t, dir("", 7, link("l", 1))), version, most, api.ErrCodecBounds)
		}
	}
}

// full: a tree of just so many nodes, 2 or more, from few that are shared.
func full(t testing.TB, count int) *tree.Tree {
	t.Helper()
	const width = 1000
	sub := of(t, wide(width-1))
	x := of(t, dir("", 7))
	put := func(name string, s *tree.Tree) {
		y, e := x.Put(name, s)
		if e != api.OK {
			t.Fatal(e)
		}
		x = y
	}
	for i := 0; count-x.Count() >= width; i++ {
		put(fmt.Sprintf("d%05d", i), sub)
	}
	for i := 0; count > x.Count(); i++ {
		put(fmt.Sprintf("f%05d", i), of(t, link("", 1+i)))
	}
	return x
}

func TestP6_1MaxNodes(t *testing.T) {
	for _, count := range []int{api.MaxNodes + 1, api.MaxNodes + 5000} {
		x := full(t, count)
		if x.Count() != count {
			t.Fatal(x.Count())
		}
		for _, most := range []int{api.MaxNodes, api.MaxNodes + 1, count, math.MaxInt} {
			noBytes(t, fmt.Sprint(count, " nodes, most ", most), x, 3, most, api.ErrCodecBounds)
		}
	}
	// One subtree at so many places that no int tells how many nodes there are.
	x := of(t, wide(900))
	for range 30 {
		y := of(t, dir("", 7))
		for i := range 10 {
			y, _ = y.Put(fmt.Sprint(i), x)
		}
		x = y
	}
	noBytes(t, "more than can be gone to", x, 1, math.MaxInt, api.ErrCodecBounds)
}

// Just MaxNodes nodes are written and read again.
func TestP6_6MaxNodes(t *testing.T) {
	t.Parallel()
	x := full(t, api.MaxNodes)
	b, e := Encode(x, 3, api.MaxNodes+7)
	if e != api.OK || len(b) > 400*api.MaxNodes+16 {
		t.Fatalf("%d: %d bytes", e, len(b))
	}
	y, version, err := Decode(b, math.MaxInt)
	if err != nil || version != 3 || !tree.Same(x, y, false) { // there are no marks
		t.Errorf("version %d, %v, or another tree", version, err)
	}
	refused(t, "one node more than may be", b, api.MaxNodes-1, api.Fault{At: 5, Err: api.ErrCodecBounds})
}

func TestP6_1OrderOfErrors(t *testing.T) {
	two := of(t, dir("", 7, link("l", 1)))
	for _, version := range []int{0, 4, -1} {
		noBytes(t, "a version and a root", of(t, file("", 6, 1)), version, 9, api.ErrCodecVersion)
		noBytes(t, "a version and a root", of(t, link("", 1)), version, 0, api.ErrCodecVersion)
		noBytes(t, "a version and bounds", two, version, 1, api.ErrCodecVersion)
	}
	noBytes(t, "a root, most 0", of(t, link("", 1)), 3, 0, api.ErrCodecRoot)
}

// What a version has no room for makes no other bytes.
func TestP6_2LeftOut(t *testing.T) {
	for name, n := range samples() {
		for version := 1; version <= 3; version++ {
			one := mustEncode(t, n, version, 999)
			if other := mustEncode(t, projected(n, version), version, 999); !bytes.Equal(one, other) {
				t.Errorf("%s, version %d: what it has no room for is to be seen", name, version)
			}
		}
	}
	n := dir("", 7, file("f", 6, 1, 5, 6, 7, 8))
	bare := dir("", 7, file("f", 6, 1))
	if one, other := mustEncode(t, n, 3, 9), mustEncode(t, bare, 3, 9); bytes.Equal(one, other) {
		t.Errorf("version 3 has no marks")
	}
	for _, mode := range []int{0, 5, api.Unknown} {
		other := dir("", mode, file("f", mode, 1))
		if !bytes.Equal(mustEncode(t, n, 1, 9), mustEncode(t, other, 1, 9)) {
			t.Errorf("version 1 has modes")
		}
		if bytes.Equal(mustEncode(t, n, 2, 9), mustEncode(t, other, 2, 9)) {
			t.Errorf("version 2 has no modes")
		}
	}
}

// hashesIn: the hashes of a file's directories, by path, as they stand in its bytes.
func hashesIn(b []byte, l []item) map[string][32]byte {
	out := map[string][32]byte{}
	at := 5
	for _, x := range l {
		if x.what == "hash" {
			out[x.path] = [32]byte(b[at : at+32])
		}
		at += len(x.b)
	}
	return out
}

func TestP6_2Hashes(t *testing.T) {
	for name, n := range samples() {
		for version := 1; version <= 3; version++ {
			kept := projected(n, version)
			b := mustEncode(t, n, version, 999)
			found := hashesIn(b, itemsOf(kept, version))
			x := of(t, kept)
			dirs := 0
			for p, v := range x.All() {
				if v.Kind != api.Dir {
					continue
				}
				dirs++
				s, _ := x.Sub(p)
				if found[p] != merkle.By(nil).Root(s) {
					t.Errorf("%s, version %d: the hash of %q isn't merkle's root", name, version, p)
				}
			}
			if dirs != len(found) {
				t.Errorf("%s, version %d: %d hashes of %d directories", name, version, len(found), dirs)
			}
		}
	}
}

// A file or a link whose digest begins as another text does is none.
func TestP6_2DigestsThatLookLikeTexts(t *testing.T) {
	n := dir("", 7, file("D", 7, 'D'), dir("DD", 7, link("D", 'D')), link("N", 'I'))
	for i := range n.Kids {
		if n.Kids[i].Value.Kind != api.Dir {
			copy(n.Kids[i].Value.Sum[:], strings.Repeat("D", 32))
		}
	}
	for version := 1; version <= 3; version++ {
		want := laid(version, itemsOf(projected(n, version), version))
		if got := mustEncode(t, n, version, 9); !bytes.Equal(got, want) {
			t.Errorf("version %d: % X, want % X", version, got, want)
		}
	}
}

func TestP6_9Length(t *testing.T) {
	long := func(i int) string { return strings.Repeat("n", api.MaxName-3) + fmt.Sprintf("%03d", i) }
	big := dir("", 7)
	for i := range 200 {
		big.Kids = append(big.Kids, file(long(i), 8, api.MaxSize, api.MaxStamp, api.MaxStamp, api.MaxStamp, api.MaxStamp))
	}
	dirs := dir("", 8)
	for i := range 200 {
		dirs.Kids = append(dirs.Kids, dir(long(i), 8, link(long(i), api.MaxTarget)))
	}
	all := samples()
	all["long names, great numbers"] = big
	all["directories, links"] = dirs
	for name, n := range all {
		for version := 1; version <= 3; version++ {
			b := mustEncode(t, n, version, 9999)
			if most := 400*countOf(n) + 16; len(b) > most {
				t.Errorf("%s, version %d: %d bytes, at most %d may be", name, version, len(b), most)
			}
		}
	}
}
