package merkle

import (
	"bytes"
	"crypto/sha256"
	"fmt"
	"slices"
	"strings"
	"testing"

	"twine/api"
)

// widePaths: of wide(n): each child, a name behind each and ahead of all, names left behind a file.
func widePaths(n int) []string {
	l := []string{"", "a", "a/b", "z"}
	for i := range n {
		name := fmt.Sprintf("n%04d", i)
		l = append(l, name, name+".", name+"/q", name+"./q")
	}
	return l
}

// rowOf: a tree, and paths to ask it for.
type rowOf struct {
	n     api.Node
	paths []string
}

// proofRows: what the proofs of these tests are made of.
func proofRows() []rowOf {
	rows := []rowOf{{sample(), samplePaths()}}
	for _, n := range []api.Node{file("", 1), link("", 1), dir("", 5)} {
		rows = append(rows, rowOf{n, []string{"", "a", "a/b"}})
	}
	for n := range 10 {
		rows = append(rows, rowOf{wide(n), widePaths(n)})
	}
	for _, n := range small() {
		rows = append(rows, rowOf{n, []string{"", "a", "b", "c", "a/a", "a/b", "aa", "a/a/a", "A"}})
	}
	deep := strings.Repeat("z/", 61)
	return append(rows, rowOf{chain(sample(), 61), []string{deep + "d/d/x", deep + "d/d/q", deep + "a/q/q", deep + "d", "z", "z/y", "y/" + deep + "z"}})
}

func prove(t testing.TB, m *Hasher, n api.Node, p string) []byte {
	t.Helper()
	b, e := m.Prove(of(t, n), p)
	if e != api.OK {
		t.Fatalf("Prove(%q): %d", p, e)
	}
	return b
}

func TestP5_5AsPlainlyReckoned(t *testing.T) {
	for name, by := range sums() {
		m := By(by)
		for _, r := range proofRows() {
			for _, p := range r.paths {
				want := (&plain{by: by}).prove(r.n, namesOf(p)).bytes()
				if b := prove(t, m, r.n, p); !bytes.Equal(b, want) {
					t.Fatalf("%s: %.60q: %x, not %x", name, p, b, want)
				}
			}
		}
	}
}

func TestP5_5ManyChildren(t *testing.T) {
	m := By(nil)
	for _, n := range []int{15, 16, 17, 33, 127, 128, 129, 300, 1025} {
		x := wide(n)
		for _, i := range []int{0, 1, n / 2, n - 2, n - 1} {
			for _, end := range []string{"", "."} {
				p := x.Kids[i].Name + end
				want := (&plain{by: sha256.Sum256}).prove(x, namesOf(p)).bytes()
				if b := prove(t, m, x, p); !bytes.Equal(b, want) {
					t.Errorf("%d children, %q: %x, not %x", n, p, b, want)
				}
			}
		}
	}
}

// Written out for five children, so that it isn't the plain reckoning alone that says what the siblings are.
func TestP5_5FiveChildren(t *testing.T) {
	p, n := plain{by: sha256.Sum256}, wide(5)
	var h, l []string
	for _, k := range n.Kids {
		h = append(h, p.hash(k))
		l = append(l, p.leaf(k.Name, h[len(h)-1]))
	}
	pair := func(a, b string) string { return p.sum("I" + a + b) }
	four := pair(pair(l[0], l[1]), pair(l[2], l[3]))
	third, fourth := l[3]+pair(l[0], l[1])+l[4], l[2]+pair(l[0], l[1])+l[4]
	for way, want := range map[string]string{
		"n0000":   "\x01\x07\x05\x00" + l[1] + pair(l[2], l[3]) + l[4] + "\x02",
		"n0002":   "\x01\x07\x05\x02" + third + "\x02",
		"n0003":   "\x01\x07\x05\x03" + fourth + "\x02",
		"n0004":   "\x01\x07\x05\x04" + four + "\x02",
		"":        "\x02\x05" + pair(four, l[4]),
		"a":       "\x03\x07\x05\x00" + "\x05n0000" + h[0] + l[1] + pair(l[2], l[3]) + l[4],
		"n0002.":  "\x03\x07\x05\x03" + "\x05n0002" + h[2] + third + "\x05n0003" + h[3] + fourth,
		"n0003.":  "\x03\x07\x05\x04" + "\x05n0003" + h[3] + fourth + "\x05n0004" + h[4] + four,
		"z":       "\x03\x07\x05\x05" + "\x05n0004" + h[4] + four,
		"z/y":     "\x03\x07\x05\x05" + "\x05n0004" + h[4] + four,
		"n0004/y": "\x01\x07\x05\x04" + four + "\x04\x02\x06\x04" + string(n.Kids[4].Value.Sum[:]),
	} {
		if b := prove(t, By(nil), n, way); string(b) != want {
			t.Errorf("%q: %x, not %x", way, b, want)
		}
	}
}

func TestP5_5RootAlone(t *testing.T) {
	f, l := file("", 300), link("", 5)
	fileEnd, linkEnd := "\x04\x02\x06\xac\x02"+string(f.Value.Sum[:]), "\x04\x03\x05"+string(l.Value.Sum[:])
	for i, c := range []struct {
		n       api.Node
		p, want string
	}{
		{f, "", "\x02"}, {f, "a", fileEnd}, {f, "a/b/c", fileEnd},
		{l, "", "\x02"}, {l, "a", linkEnd}, {l, "a/b/c", linkEnd},
		{dir("", 8), "", "\x02\x00" + strings.Repeat("\x00", 32)}, {dir("", 8), "a", "\x03\x08\x00\x00"}, {dir("", 0), "a/b/c", "\x03\x00\x00\x00"},
	} {
		if b := prove(t, By(nil), c.n, c.p); string(b) != c.want {
			t.Errorf("row %d: %x", i, b)
		}
	}
}

// How many names are found, which end it is, how many children stand ahead of a missing name, and how many neighbours are told.
func TestP5_5Ends(t *testing.T) {
	for p, want := range map[string][4]int{
		"": {0, 2, 0, 0}, "a": {1, 2, 0, 0}, "a b": {1, 2, 0, 0}, "d/d/y": {3, 2, 0, 0}, "d/d": {2, 2, 0, 0},
		"A": {0, 3, 0, 1}, "aa": {0, 3, 3, 2}, "zz": {0, 3, 5, 1}, "a b/q": {1, 3, 0, 0}, "a b/q/r": {1, 3, 0, 0},
		"d/dd": {1, 3, 1, 2}, "d/dd/x": {1, 3, 1, 2}, "d/a": {1, 3, 0, 1}, "d/\xff\xff": {1, 3, 3, 1}, "d/d/xx": {2, 3, 1, 2},
		"a/q": {1, 4, 0, 0}, "a/q/r": {1, 4, 0, 0}, "a.b/q": {1, 4, 0, 0}, "d/d/x/y": {3, 4, 0, 0}, "d/e/e/e": {2, 4, 0, 0},
	} {
		v, _ := of(t, sample()).At(p)
		x, ok := parse(prove(t, By(nil), sample(), p), len(namesOf(p)), v.Kind)
		if got := [4]int{len(x.steps), x.end, x.k, len(x.sides)}; !ok || got != want {
			t.Errorf("%q: %v, not %v", p, got, want)
		}
	}
}

func noPaths() map[string]api.Errno {
	many := strings.Repeat("q/", 64)
	return map[string]api.Errno{
		"/": 30, "a/": 30, "/a": 30, "a//b": 30, ".": 30, "..": 30, "a/.": 30, "a/../b": 30, "a\x00": 30, "d/\x00": 30,
		strings.Repeat("q", 256): 30, "d/" + strings.Repeat("q", 256): 30, strings.Repeat("/", 63): 30, strings.Repeat("/", 64): 31, many + "q": 31, many: 31, many + "/": 31,
	}
}

func TestP5_5NoPath(t *testing.T) {
	for _, n := range []api.Node{sample(), dir("", 7), file("", 1), link("", 1)} {
		for p, want := range noPaths() {
			if b, e := By(nil).Prove(of(t, n), p); e != want || b != nil {
				t.Errorf("%.80q: %x, %d, want %d", p, b, e, want)
			}
		}
		for _, p := range []string{strings.TrimSuffix(strings.Repeat("q/", 64), "/"), strings.Repeat("q", 255)} {
			prove(t, By(nil), n, p)
		}
	}
}

func TestP5_10ProofsHold(t *testing.T) {
	for name, by := range sums() {
		m := By(by)
		for _, r := range proofRows() {
			x := of(t, r.n)
			for _, p := range r.paths {
				v, _ := x.At(p)
				if !m.Holds(m.Root(x), p, v, prove(t, m, r.n, p)) {
					t.Errorf("%s: %.60q: its own proof doesn't hold", name, p)
				}
			}
		}
	}
}

func TestP5_10ManyChildren(t *testing.T) {
	m := By(nil)
	for _, n := range []int{16, 17, 129, 1025} {
		x := of(t, wide(n))
		root := m.Root(x)
		for _, p := range slices.Concat(widePaths(2), []string{fmt.Sprintf("n%04d", n-1), fmt.Sprintf("n%04d", n), fmt.Sprintf("n%04d.", n/2)}) {
			v, _ := x.At(p)
			if !m.Holds(root, p, v, prove(t, m, wide(n), p)) {
				t.Errorf("%d children: %q", n, p)
			}
		}
	}
}

// halvings: how often n can be halved, rounded up, till it is 1.
func halvings(n int) int {
	s := 0
	for ; n > 1; n = (n + 1) / 2 {
		s++
	}
	return s
}

// bound: P5.11's, the names that aren't come to counting nothing.
func bound(n api.Node, names []string) int {
	most := 50
next:
	for _, name := range names {
		if n.Value.Kind != api.Dir {
			return most
		}
		s := halvings(len(n.Kids))
		most += 20 + 32*s
		for _, k := range n.Kids {
			if k.Name == name {
				n = k
				continue next
			}
		}
		return most + 2*(322+32*s)
	}
	return most
}

func TestP5_11ProofsAreShort(t *testing.T) {
	rows := proofRows()
	for _, n := range []int{16, 17, 127, 128, 129, 300, 1000, 1024, 1025, 4097} {
		x := wide(n)
		last := x.Kids[n-1].Name
		rows = append(rows, rowOf{x, []string{"", "a", x.Kids[0].Name, x.Kids[n/2].Name, x.Kids[n/2].Name + ".", last, last + ".", last + "/q"}})
	}
	for _, r := range rows {
		for _, p := range r.paths {
			if b := prove(t, By(nil), r.n, p); len(b) > bound(r.n, namesOf(p)) {
				t.Errorf("%d children, %.60q: %d bytes, more than %d", len(r.n.Kids), p, len(b), bound(r.n, namesOf(p)))
			}
		}
	}
}

// The longest names, on every level so many of them; at the end what takes the most bytes.
func TestP5_11LongNames(t *testing.T) {
	long := func(c byte) string { return strings.Repeat("q", 254) + string(rune(c)) }
	for _, end := range []api.Node{file("", api.MaxSize), link("", api.MaxTarget), dir("", 8, file("a", 1), file("c", 1))} {
		n, names := end, []string(nil)
		for range 62 {
			n.Name = long('m')
			n = dir("", 8, file(long('a'), 1), file(long('b'), 2), file(long('c'), 3), n, file(long('x'), 1))
			names = append(names, long('m'))
		}
		for _, more := range [][]string{nil, {"b"}, {"b", "c"}, {long('m'), "d"}} {
			l := slices.Concat(names, more)
			b := prove(t, By(nil), n, strings.Join(l, "/"))
			if len(b) > bound(n, l) || len(b) > api.MaxProof {
				t.Errorf("%d names: %d bytes, more than %d", len(l), len(b), bound(n, l))
			}
		}
		gap := slices.Concat(names[:61], []string{long('n')})
		if b := prove(t, By(nil), n, strings.Join(gap, "/")); len(b) > bound(n, gap) {
			t.Errorf("a gap: %d bytes, more than %d", len(b), bound(n, gap))
		}
	}
}
