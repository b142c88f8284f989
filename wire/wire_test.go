package wire

import (
	"bytes"
	"errors"
	"fmt"
	"math"
	"strings"
	"testing"

	"twine/api"
)

// edges: numbers at which the count of groups changes, and some between.
func edges() []uint64 {
	l := []uint64{0, 1, 2, 127, 128, 129, 255, 256, 300, math.MaxUint64 - 1, math.MaxUint64}
	for k := 14; k < 64; k += 7 {
		l = append(l, 1<<k-1, 1<<k, 1<<k+1)
	}
	return l
}

// sayings: texts at the edges of their lengths' forms, and of odd bytes.
func sayings() []string {
	return []string{"", "a", "b", "ab", "\x00", "\x00\x00", "\xff\xfe", "ä/€", strings.Repeat("x", 127), strings.Repeat("x", 128), strings.Repeat("y", 16384)}
}

// hexOf tells bytes as the document writes them.
func hexOf(b []byte) string { return fmt.Sprintf("% X", b) }

// roomy tells b's bytes with room behind them that holds 0xEE, and all of that memory.
func roomy(b []byte) (list, whole []byte) {
	whole = append(bytes.Clone(b), bytes.Repeat([]byte{0xEE}, 64)...)
	return whole[:len(b)], whole
}

// shorts gives all byte strings of at most n of these bytes.
func shorts(n int, yield func(b []byte)) {
	level := [][]byte{nil}
	for range n + 1 {
		var next [][]byte
		for _, b := range level {
			yield(b)
			for _, c := range []byte{0, 1, 2, 3, 0x7F, 0x80, 0x81, 0xFF} {
				next = append(next, append(bytes.Clone(b), c))
			}
		}
		level = next
	}
}

// nines gives what stands behind eight or nine bytes of which each says that another one follows.
func nines(yield func(b []byte)) {
	for _, c := range []byte{0x80, 0x81, 0xFF} {
		for n := 8; n <= 9; n++ {
			for d := range 256 {
				b := append(bytes.Repeat([]byte{c}, n), byte(d))
				yield(b)
				yield(append(bytes.Clone(b), 0))
				yield(append(bytes.Clone(b), 1))
			}
		}
	}
}

// formOf tells a number's form by dividing, as P1.1 says it.
func formOf(n uint64) []byte {
	b := []byte{byte(n % 128)}
	for n /= 128; n > 0; n /= 128 {
		b[len(b)-1] += 128
		b = append(b, byte(n%128))
	}
	return b
}

func TestP1_1Numbers(t *testing.T) {
	for _, c := range []struct {
		n    uint64
		want string
	}{
		{0, "00"}, {1, "01"}, {127, "7F"}, {128, "80 01"}, {255, "FF 01"}, {300, "AC 02"}, {16383, "FF 7F"}, {16384, "80 80 01"},
		{1 << 63, "80 80 80 80 80 80 80 80 80 01"}, {1<<63 - 1, "FF FF FF FF FF FF FF FF 7F"}, {math.MaxUint64, "FF FF FF FF FF FF FF FF FF 01"},
	} {
		if got := hexOf(PutUint(nil, c.n)); got != c.want {
			t.Errorf("%d: %s, want %s", c.n, got, c.want)
		}
	}
	for _, n := range edges() {
		if got := PutUint(nil, n); !bytes.Equal(got, formOf(n)) {
			t.Errorf("%d: % X, want % X", n, got, formOf(n))
		}
	}
}

func TestP1_1Texts(t *testing.T) {
	for _, c := range []struct{ s, want string }{{"", "00"}, {"a", "01 61"}, {"ab", "02 61 62"}, {"\x00\xff", "02 00 FF"}, {"€", "03 E2 82 AC"}} {
		if got := hexOf(PutText(nil, c.s)); got != c.want {
			t.Errorf("%q: %s, want %s", c.s, got, c.want)
		}
	}
	for _, s := range sayings() {
		want := append(formOf(uint64(len(s))), s...)
		if got := PutText(nil, s); !bytes.Equal(got, want) {
			t.Errorf("a text of %d bytes: % X", len(s), got)
		}
	}
}

func TestP1_2Behind(t *testing.T) {
	if got := hexOf(PutUint([]byte{5}, 300)); got != "05 AC 02" {
		t.Errorf("300 behind 05: %s", got)
	}
	for _, b := range [][]byte{nil, {}, {5}, {0x80}, bytes.Repeat([]byte{9}, 300)} {
		for _, n := range edges() {
			if got, want := PutUint(b, n), append(bytes.Clone(b), formOf(n)...); !bytes.Equal(got, want) {
				t.Errorf("%d behind %d bytes: % X", n, len(b), got)
			}
		}
		for _, s := range sayings() {
			if got, want := PutText(b, s), append(bytes.Clone(b), PutText(nil, s)...); !bytes.Equal(got, want) {
				t.Errorf("a text of %d bytes behind %d: % X", len(s), len(b), got)
			}
		}
	}
}

// puts: both ways to lay something down, by one name.
func puts() []func(b []byte) []byte {
	return []func(b []byte) []byte{
		func(b []byte) []byte { return PutUint(b, 300) },
		func(b []byte) []byte { return PutText(b, "ab") },
		func(b []byte) []byte { return PutText(b, "") },
	}
}

func TestP1_2NewMemory(t *testing.T) {
	for i, put := range puts() {
		b, whole := roomy([]byte{5, 6})
		before := bytes.Clone(whole)
		one, two := put(b), put(b)
		if !bytes.Equal(whole, before) {
			t.Errorf("put %d: what was handed in, or the room behind it, has changed", i)
		}
		want := bytes.Clone(two)
		fill(one)
		if !bytes.Equal(two, want) || !bytes.Equal(whole, before) {
			t.Errorf("put %d: an answer shares memory", i)
		}
		clear(whole)
		if !bytes.Equal(two, want) {
			t.Errorf("put %d: what was handed in is kept", i)
		}
	}
}

// fill writes over a list and all the room behind it.
func fill(b []byte) {
	b = b[:cap(b)]
	for i := range b {
		b[i] = 0x55
	}
}

func TestP1_8ThereAndBack(t *testing.T) {
	for _, tail := range [][]byte{nil, {0}, {1}, {0x80}, {0xFF, 0xFF}} {
		for _, n := range edges() {
			form := PutUint(nil, n)
			for _, most := range []uint64{n, math.MaxUint64} {
				r := Read(append(bytes.Clone(form), tail...))
				if got := r.Uint(most); got != n || r.At() != len(form) || r.Err() != nil {
					t.Errorf("%d, most %d, with % X behind: %d, at %d, %v", n, most, tail, got, r.At(), r.Err())
				}
			}
		}
		for _, s := range sayings() {
			form := PutText(nil, s)
			for _, most := range []int{len(s), len(s) + 1, math.MaxInt} {
				r := Read(append(bytes.Clone(form), tail...))
				if got := r.Text(most); got != s || r.At() != len(form) || r.Err() != nil {
					t.Errorf("a text of %d bytes, most %d, with % X behind: %q, at %d, %v", len(s), most, tail, got, r.At(), r.Err())
				}
			}
		}
	}
}

func TestP1_9OneForm(t *testing.T) {
	look := func(b []byte) {
		r := Read(b)
		n := r.Uint(math.MaxUint64)
		if r.Err() == nil && !bytes.Equal(PutUint(nil, n), b[:r.At()]) {
			t.Errorf("% X: %d has another form", b, n)
		}
		r = Read(b)
		s := r.Text(math.MaxInt)
		if r.Err() == nil && !bytes.Equal(PutText(nil, s), b[:r.At()]) {
			t.Errorf("% X: %q has another form", b, s)
		}
	}
	shorts(4, look)
	nines(look)
}

func TestP1_9NoBeginning(t *testing.T) {
	var forms [][]byte
	for _, n := range edges() {
		forms = append(forms, PutUint(nil, n))
	}
	noBeginning(t, forms)
	forms = nil
	for _, s := range sayings() {
		forms = append(forms, PutText(nil, s))
	}
	noBeginning(t, forms)
}

func noBeginning(t *testing.T, forms [][]byte) {
	t.Helper()
	for i, x := range forms {
		for k, y := range forms {
			if i != k && bytes.HasPrefix(y, x) {
				t.Errorf("% X begins with % X", y, x)
			}
		}
	}
}

func TestP1_10FormStands(t *testing.T) {
	reads := []func(r *Reader){func(r *Reader) { r.Uint(math.MaxUint64) }, func(r *Reader) { r.Uint(0) }, func(r *Reader) { r.Text(math.MaxInt) }, func(r *Reader) { r.Text(-1) }}
	look := func(b []byte) {
		for i, read := range reads {
			r := Read(b)
			read(r)
			if !errors.Is(r.Err(), api.ErrWireForm) {
				continue
			}
			k := faultOf(t, r).At
			for _, tail := range [][]byte{nil, {0}, {1}, {0x80, 0x80}, {0xFF, 0, 1}} {
				r := Read(append(bytes.Clone(b[:k+1]), tail...))
				read(r)
				if f := faultOf(t, r); f != (api.Fault{At: k, Err: api.ErrWireForm}) {
					t.Errorf("% X, read %d, with % X behind byte %d: %v", b, i, tail, k, f)
				}
			}
		}
	}
	shorts(3, look)
	nines(look)
}

func TestP1_10ShortIsMended(t *testing.T) {
	look := func(b []byte) {
		for n := range 6 {
			mended(t, b, n-len(b), 9, func(r *Reader) { r.Raw(n) })
		}
		mended(t, b, 1, 9, func(r *Reader) { r.Byte() })
		for _, most := range []uint64{0, 300, math.MaxUint64} {
			mended(t, b, 1, 1, func(r *Reader) { r.Uint(most) })
		}
		r := Read(b)
		n := r.Uint(1 << 20)
		if r.Err() == nil {
			mended(t, b, int(n)-(len(b)-r.At()), 9, func(r *Reader) { r.Text(1 << 20) })
		}
	}
	shorts(3, look)
	for n := range 10 {
		look(bytes.Repeat([]byte{0xFF}, n))
	}
	for _, n := range edges() {
		form := PutUint(nil, n)
		for k := range form {
			look(form[:k])
		}
	}
}

// mended looks that, if a read of b is short, it is so no more with some bytes c behind, and still with one fewer.
func mended(t *testing.T, b []byte, missing int, c byte, read func(r *Reader)) {
	t.Helper()
	r := Read(b)
	read(r)
	if !errors.Is(r.Err(), api.ErrWireShort) {
		return
	}
	for n := missing - 1; n <= missing; n++ {
		r := Read(append(bytes.Clone(b), bytes.Repeat([]byte{c}, n)...))
		read(r)
		if short := errors.Is(r.Err(), api.ErrWireShort); short != (n < missing) {
			t.Errorf("% X with %d bytes behind: %v", b, n, r.Err())
		}
	}
}
