package lift

import (
	"bytes"
	"errors"
	"fmt"
	"math"
	"math/rand"
	"testing"

	"twine/api"
	"twine/codec"
)

// back: the fault where there is no version to which a file can be lifted.
func back() api.Fault { return api.Fault{At: 4, Err: 70} }

// anyTo: versions, and what is none.
func anyTo() []int {
	return []int{math.MinInt, -256 + 3, -1, 0, 1, 2, 3, 4, 5, 128, 256 + 3, 1<<32 + 3, math.MaxInt}
}

func TestP7_Example2(t *testing.T) {
	for _, n := range archives() {
		b := fileOf(t, n, 2)
		refused(t, "from 2 to 1", b, 1, api.MaxNodes, back())
		if got := migrated(t, "from 2 to 2", b, 2, api.MaxNodes); !bytes.Equal(got, b) {
			t.Error("from 2 to 2: other bytes")
		}
	}
	for _, to := range anyTo() {
		refused(t, fmt.Sprint("no bytes, to ", to), nil, to, 9, api.Fault{At: 0, Err: api.ErrCodecMark})
		refused(t, fmt.Sprint("no bytes, to ", to), []byte{}, to, 9, api.Fault{At: 0, Err: api.ErrCodecMark})
	}
}

// From each version to each number.
func TestP7_3EachToEach(t *testing.T) {
	for name, n := range archives() {
		for from := 1; from <= 3; from++ {
			b := fileOf(t, n, from)
			for _, to := range anyTo() {
				what := fmt.Sprint(name, ", from ", from, " to ", to)
				if to < from || to > 3 {
					refused(t, what, b, to, api.MaxNodes, back())
					continue
				}
				want := fileOf(t, kept(n, from), to)
				if got := migrated(t, what, b, to, api.MaxNodes); !bytes.Equal(got, want) {
					t.Errorf("%s: % X, want % X", what, got, want)
				}
			}
		}
	}
}

// The root alone, byte by byte.
func TestP7_3Bytes(t *testing.T) {
	for from := 1; from <= 3; from++ {
		b := fileOf(t, dir("", 5), from)
		mode := byte(5)
		if from == 1 {
			mode = 8
		}
		for to := max(from, 2); to <= 3; to++ {
			got := migrated(t, "the root alone", b, to, 1)
			head := []byte{0x74, 0x77, 0x6E, 0x65, byte(to), 1, 1, mode, 0}
			if len(got) != 45 || !bytes.Equal(got[:9], head) || !bytes.Equal(got[9:41], b[len(b)-36:len(b)-4]) || !bytes.Equal(sealed(unsealed(got)), got) {
				t.Errorf("from %d to %d: % X", from, to, got)
			}
		}
	}
}

// bad: a file that Decode refuses, and how.
type bad struct {
	why  string
	b    []byte
	most int
	want api.Fault
}

// heads: files whose mark or version isn't right.
func heads(b []byte) []bad {
	var l []bad
	for n := range 4 {
		l = append(l, bad{fmt.Sprint("the first ", n, " bytes"), b[:n], 9, api.Fault{At: 0, Err: api.ErrCodecMark}})
		l = append(l, bad{"a wrong mark", sealed(turned(unsealed(b), n, 1)), 9, api.Fault{At: 0, Err: api.ErrCodecMark}})
	}
	l = append(l, bad{"the mark alone", b[:4], 9, api.Fault{At: 4, Err: api.ErrCodecVersion}})
	for _, version := range [][]byte{{0}, {4}, {128}, {0x81, 0}, {0x83, 0}, {0x80, 1}, {0xFF, 0xFF}} {
		other := append(append([]byte("twne"), version...), unsealed(b)[5:]...)
		l = append(l, bad{fmt.Sprintf("version % X", version), sealed(other), 9, api.Fault{At: 4, Err: api.ErrCodecVersion}})
		l = append(l, bad{fmt.Sprintf("version % X alone", version), other[:4+len(version)], 9, api.Fault{At: 4, Err: api.ErrCodecVersion}})
	}
	return l
}

// sums: files whose sum isn't right.
func sums(b []byte) []bad {
	var l []bad
	for n := 5; n < 9; n++ {
		l = append(l, bad{fmt.Sprint("the first ", n, " bytes"), b[:n], 9, api.Fault{At: 5, Err: api.ErrCodecSum}})
	}
	for n := 9; n < len(b); n++ {
		l = append(l, bad{fmt.Sprint("the first ", n, " bytes"), b[:n], 9, api.Fault{At: n - 4, Err: api.ErrCodecSum}})
	}
	for at := 5; at < len(b); at++ {
		l = append(l, bad{fmt.Sprint("byte ", at, " is turned"), turned(b, at, 0x10), 9, api.Fault{At: len(b) - 4, Err: api.ErrCodecSum}})
	}
	return l
}

// bodies: files with a right sum whose nodes aren't right; b is of the root, a directory d in it with a file f, and a link l.
func bodies(b []byte, version int) []bad {
	turn := func(at int, bits byte) []byte { return sealed(turned(unsealed(b), at, bits)) }
	root, below := 9, 46 // the hashes
	if version == 1 {
		root, below = 8, 44
	}
	l := []bad{
		{"no nodes", turn(5, 4), 9, api.Fault{At: 5, Err: api.ErrCodecForm}},
		{"five nodes told", turn(5, 1), 9, api.Fault{At: 5, Err: api.ErrCodecForm}},
		{"a root of kind 3", turn(6, 2), 9, api.Fault{At: 6, Err: api.ErrCodecForm}},
		{"five children of four", turn(root-1, 7), 9, api.Fault{At: root - 1, Err: api.ErrCodecForm}},
		{"a byte more", sealed(append(unsealed(b), 1)), 9, api.Fault{At: len(b) - 4, Err: api.ErrCodecForm}},
		{"a byte less", sealed(unsealed(b)[:len(b)-5]), 9, api.Fault{At: len(b) - 4 - 32, Err: api.ErrCodecForm}},
		{"too many nodes", b, 3, api.Fault{At: 5, Err: api.ErrCodecBounds}},
		{"the root's hash", turn(root, 1), 9, api.Fault{At: root, Err: api.ErrCodecHash}},
		{"the hash of d", turn(below+31, 0x80), 9, api.Fault{At: below, Path: "d", Err: api.ErrCodecHash}},
		{"both hashes", sealed(turned(turned(unsealed(b), root, 1), below, 1)), 9, api.Fault{At: root, Err: api.ErrCodecHash}},
	}
	if version > 1 {
		l = append(l, bad{"mode 15", turn(7, 8), 9, api.Fault{At: 7, Err: api.ErrCodecForm}})
		l = append(l, bad{"another mode", turn(7, 1), 9, api.Fault{At: root, Err: api.ErrCodecHash}})
	}
	return l
}

// tooDeep: a file in which the deepest directory is said to have a child.
func tooDeep(t *testing.T, version int) bad {
	b := unsealed(fileOf(t, chain(dir("", 6), api.MaxDepth), version))
	b[5]++
	b[len(b)-33]++
	return bad{"too deep", sealed(b), 99, api.Fault{At: len(b), Err: api.ErrCodecBounds}}
}

// Decode's errors are answered as they are: place, path and number; they come ahead of ErrLiftBack.
func TestP7_3DecodesErrors(t *testing.T) {
	n := dir("", 7, dir("d", 5, file("f", 6, 3, 1, 2, 3, 4)), link("l", 2))
	for version := 1; version <= 3; version++ {
		b := fileOf(t, n, version)
		all := append(heads(b), sums(b)...)
		all = append(all, bodies(b, version)...)
		all = append(all, tooDeep(t, version))
		for _, c := range all {
			_, _, err := codec.Decode(c.b, c.most)
			var f *api.Fault
			if !errors.As(err, &f) || *f != c.want {
				t.Errorf("version %d, %s: Decode tells %v, want %+v", version, c.why, err, c.want)
			}
			for _, to := range anyTo() {
				refused(t, fmt.Sprint("version ", version, ", ", c.why, ", to ", to), c.b, to, c.most, c.want)
			}
		}
	}
}

// Where both errors hold, Decode's is told: too many nodes, and a version behind.
func TestP7_3Order(t *testing.T) {
	b := fileOf(t, dir("", 7, dir("d", 7)), 3)
	bounds := api.Fault{At: 5, Err: api.ErrCodecBounds}
	for _, to := range anyTo() {
		refused(t, "both", b, to, 1, bounds)
		if to != 3 {
			refused(t, "the version alone", b, to, 2, back())
		}
	}
	refused(t, "most alone", b, 3, 1, bounds)
}

func TestP7_3Most(t *testing.T) {
	for name, n := range archives() {
		count := countOf(n)
		for from := 1; from <= 3; from++ {
			b := fileOf(t, n, from)
			for _, most := range []int{math.MinInt, -1, 0, 1, count - 1, count, count + 1, api.MaxNodes - 1, api.MaxNodes, api.MaxNodes + 1, math.MaxInt} {
				what := fmt.Sprint(name, ", from ", from, ", most ", most)
				for to := from; to <= 3; to++ {
					if max(most, 1) < count {
						refused(t, what, b, to, most, api.Fault{At: 5, Err: api.ErrCodecBounds})
						continue
					}
					if got := migrated(t, what, b, to, most); !bytes.Equal(got, fileOf(t, kept(n, from), to)) {
						t.Errorf("%s, to %d: other bytes", what, to)
					}
				}
			}
		}
	}
}

// spoilt: a file of n, or not quite.
func spoilt(t *testing.T, r *rand.Rand, n api.Node) []byte {
	b := unsealed(fileOf(t, n, 1+r.Intn(3)))
	for range r.Intn(3) {
		switch at := r.Intn(len(b)); r.Intn(5) {
		case 0:
			b = turned(b, at, 1<<r.Intn(8))
		case 1:
			b = append(b[:at:at], b[at+1:]...)
		case 2:
			b[4] = byte(r.Intn(6))
		case 3:
			b[min(5+r.Intn(6), len(b)-1)] = byte(r.Intn(10))
		case 4:
			b = b[:at+1]
		}
	}
	if r.Intn(6) == 0 {
		return b
	}
	return sealed(b)
}

// Any bytes, any number, any most: what Decode and Encode say of them.
func TestP7_3Anything(t *testing.T) {
	taken, none, wrong := 0, 0, 0
	for i := range 4000 {
		r := rand.New(rand.NewSource(int64(i)))
		n := randomTree(r, 1+r.Intn(8))
		b, to, most := spoilt(t, r, n), r.Intn(7)-1, countOf(n)+r.Intn(4)-1
		x, v, err := codec.Decode(b, most)
		what := fmt.Sprintf("% X, to %d, most %d", b, to, most)
		switch {
		case err != nil:
			wrong++
			refused(t, what, b, to, most, *err.(*api.Fault))
		case to < v || to > 3:
			none++
			refused(t, what, b, to, most, back())
		default:
			taken++
			if got := migrated(t, what, b, to, most); !bytes.Equal(got, fileOf(t, x.Node(), to)) {
				t.Errorf("%s: other bytes", what)
			}
		}
	}
	if min(taken, none, wrong) < 200 {
		t.Errorf("%d taken, %d without a version, %d refused", taken, none, wrong)
	}
}
