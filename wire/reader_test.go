package wire

import (
	"bytes"
	"errors"
	"math"
	"testing"

	"twine/api"
)

// faultOf tells a reader's fault, which there must be.
func faultOf(t *testing.T, r *Reader) api.Fault {
	t.Helper()
	var f *api.Fault
	if !errors.As(r.Err(), &f) {
		t.Fatalf("no fault, but %v", r.Err())
	}
	return *f
}

// expect looks that a reader stands at a place, with a fault (err OK: with none).
func expect(t *testing.T, what string, r *Reader, at int, err api.Errno, place int) {
	t.Helper()
	if r.At() != at {
		t.Errorf("%s: it stands at %d, want %d", what, r.At(), at)
	}
	if err == api.OK {
		if r.Err() != nil {
			t.Errorf("%s: %v", what, r.Err())
		}
		return
	}
	if got, want := faultOf(t, r), (api.Fault{At: place, Err: err}); got != want {
		t.Errorf("%s: %v, want %v", what, got, want)
	}
}

func TestExamples(t *testing.T) {
	r := Read([]byte{0xAC, 2, 9})
	if n := r.Uint(400); n != 300 {
		t.Errorf("Uint(400): %d", n)
	}
	expect(t, "behind 300", r, 2, api.OK, 0)
	if n := r.Uint(8); n != 0 {
		t.Errorf("Uint(8): %d", n)
	}
	expect(t, "9 above 8", r, 2, api.ErrWireLong, 2)
	if c := r.Byte(); c != 0 {
		t.Errorf("Byte behind a fault: %d", c)
	}

	nine := bytes.Repeat([]byte{0xFF}, 9)
	for _, c := range []struct {
		b     []byte
		err   api.Errno
		place int
	}{
		{[]byte{0x80, 0}, api.ErrWireForm, 1}, {[]byte{0x80}, api.ErrWireShort, 1}, {nil, api.ErrWireShort, 0},
		{append(bytes.Clone(nine), 2), api.ErrWireForm, 9}, {nine, api.ErrWireShort, 9},
	} {
		r := Read(c.b)
		r.Uint(math.MaxUint64)
		expect(t, hexOf(c.b), r, 0, c.err, c.place)
	}

	r = Read([]byte{3, 'a', 'b'})
	r.Text(2)
	expect(t, "Text(2)", r, 0, api.ErrWireLong, 0)
	r = Read([]byte{3, 'a', 'b'})
	r.Text(3)
	expect(t, "Text(3)", r, 0, api.ErrWireShort, 3)
	r = Read([]byte{1, 'a', 7})
	if s := r.Text(9); s != "a" {
		t.Errorf("Text(9): %q", s)
	}
	r.End()
	expect(t, "End", r, 2, api.ErrWireRest, 2)
}

func TestP1_3AsTheyAreThen(t *testing.T) {
	b, whole := roomy([]byte{1, 'a', 7, 8})
	before := bytes.Clone(whole)
	r, other := Read(b), Read(b)
	clear(b)
	if s := r.Text(9); s != "a" {
		t.Errorf("%q: the bytes have changed under the reader", s)
	}
	expect(t, "behind a text", r, 2, api.OK, 0)
	r.Raw(9)
	expect(t, "the room behind isn't read", r, 2, api.ErrWireShort, 4)
	expect(t, "another reader", other, 0, api.OK, 0)
	if got := other.Raw(4); !bytes.Equal(got, before[:4]) {
		t.Errorf("another reader: % X", got)
	}
	expect(t, "another reader, at its end", other, 4, api.OK, 0)
	if !bytes.Equal(whole[4:], before[4:]) {
		t.Errorf("the room behind was written to")
	}
}

func TestP1_3AnswersAreNew(t *testing.T) {
	b := []byte{1, 2, 3, 4}
	r := Read(b)
	one := r.Raw(2)
	fill(one)
	if two := r.Raw(2); !bytes.Equal(two, []byte{3, 4}) {
		t.Errorf("what is left has changed: % X", two)
	}
	if !bytes.Equal(b, []byte{1, 2, 3, 4}) {
		t.Errorf("what was handed in has changed: % X", b)
	}

	r.Byte()
	var f *api.Fault
	if !errors.As(r.Err(), &f) {
		t.Fatal("no fault")
	}
	*f = api.Fault{At: 77, Path: "x", Err: api.ErrWireRest}
	expect(t, "an answer that was changed", r, 4, api.ErrWireShort, 4)
}

func TestP1_3ErrIsNil(t *testing.T) {
	r := Read([]byte{7})
	if err := r.Err(); err != nil {
		t.Errorf("%v", err)
	}
	r.Byte()
	r.End()
	expect(t, "all read", r, 1, api.OK, 0)
}

// broken gives readers with each fault, standing at byte 1, with bytes left.
func broken() map[string]*Reader {
	made := map[string]*Reader{}
	for name, c := range map[string]struct {
		b    []byte
		read func(r *Reader)
	}{
		"short, Byte": {[]byte{9}, func(r *Reader) { r.Byte() }},
		"short, Raw":  {[]byte{9, 1, 1}, func(r *Reader) { r.Raw(3) }},
		"short, Uint": {[]byte{9, 0x80, 0x80}, func(r *Reader) { r.Uint(9) }},
		"short, Text": {[]byte{9, 5, 'a'}, func(r *Reader) { r.Text(9) }},
		"form, Uint":  {[]byte{9, 0x80, 0, 1}, func(r *Reader) { r.Uint(9) }},
		"form, Text":  {[]byte{9, 0x80, 0, 1}, func(r *Reader) { r.Text(9) }},
		"long, Uint":  {[]byte{9, 2, 1, 1}, func(r *Reader) { r.Uint(1) }},
		"long, Text":  {[]byte{9, 2, 'a', 'b'}, func(r *Reader) { r.Text(1) }},
		"rest":        {[]byte{9, 1, 'a', 1}, func(r *Reader) { r.End() }},
	} {
		r := Read(c.b)
		r.Byte()
		c.read(r)
		made[name] = r
	}
	return made
}

func TestP1_3BehindAFault(t *testing.T) {
	for name, r := range broken() {
		first := faultOf(t, r)
		for i, read := range []func() bool{
			func() bool { return r.Byte() == 0 },
			func() bool { return r.Uint(math.MaxUint64) == 0 },
			func() bool { return r.Uint(0) == 0 },
			func() bool { return r.Text(math.MaxInt) == "" },
			func() bool { return r.Text(-1) == "" },
			func() bool { return len(r.Raw(1)) == 0 },
			func() bool { return len(r.Raw(99)) == 0 },
			func() bool { return len(r.Raw(0)) == 0 },
			func() bool { r.End(); return true },
		} {
			if !read() {
				t.Errorf("%s: read %d answers something", name, i)
			}
			expect(t, name, r, 1, first.Err, first.At)
		}
	}
}

func TestP1_4Byte(t *testing.T) {
	var all []byte
	for c := range 256 {
		all = append(all, byte(c))
	}
	r := Read(all)
	for i, c := range all {
		if got := r.Byte(); got != c {
			t.Errorf("byte %d: %d", i, got)
		}
		expect(t, "Byte", r, i+1, api.OK, 0)
	}
	if got := r.Byte(); got != 0 {
		t.Errorf("behind the last: %d", got)
	}
	expect(t, "behind the last", r, 256, api.ErrWireShort, 256)
}

func TestP1_4Raw(t *testing.T) {
	b := []byte{7, 8, 9}
	for start := range 4 {
		for n := range 6 {
			r := Read(b)
			r.Raw(start)
			got := r.Raw(n)
			if n > 3-start {
				expect(t, "too many", r, start, api.ErrWireShort, 3)
				n = 0
			} else {
				expect(t, "Raw", r, start+n, api.OK, 0)
			}
			if !bytes.Equal(got, b[start:start+n]) {
				t.Errorf("%d from %d on: % X", n, start, got)
			}
		}
		r := Read(b)
		r.Raw(start)
		r.Raw(math.MaxInt)
		expect(t, "Raw of the most", r, start, api.ErrWireShort, 3)
	}
	for _, n := range []int{0, -1, -3, math.MinInt} {
		for _, b := range [][]byte{nil, {7, 8}} {
			r := Read(b)
			if got := r.Raw(n); len(got) != 0 {
				t.Errorf("Raw(%d): % X", n, got)
			}
			expect(t, "Raw of none", r, 0, api.OK, 0)
		}
	}
}

func TestP1_5Faults(t *testing.T) {
	nine := bytes.Repeat([]byte{0x80}, 9)
	for _, c := range []struct {
		b     []byte
		most  uint64
		err   api.Errno
		place int
	}{
		{nil, 0, api.ErrWireShort, 0},
		{[]byte{0x80}, 0, api.ErrWireShort, 1},
		{[]byte{0x80, 0}, 0, api.ErrWireForm, 1},
		{[]byte{0xFF, 0x80, 0, 1}, 9, api.ErrWireForm, 2},
		{[]byte{0x80, 0x80}, 0, api.ErrWireShort, 2},
		{[]byte{1}, 0, api.ErrWireLong, 0},
		{[]byte{0x80, 1}, 127, api.ErrWireLong, 0},
		{[]byte{0x80, 1, 0}, 127, api.ErrWireLong, 0},
		{append(bytes.Clone(nine), 1), 1<<63 - 1, api.ErrWireLong, 0},
		{nine, 0, api.ErrWireShort, 9},
		{append(bytes.Clone(nine), 0), 0, api.ErrWireForm, 9},
		{append(bytes.Clone(nine), 2), 0, api.ErrWireForm, 9},
		{append(bytes.Clone(nine), 0x80), 0, api.ErrWireForm, 9},
		{append(bytes.Clone(nine), 0x81), 0, api.ErrWireForm, 9},
		{append(bytes.Clone(nine), 0x81, 1), 0, api.ErrWireForm, 9},
	} {
		for ahead := range 3 {
			r := Read(append(make([]byte, ahead), c.b...))
			r.Raw(ahead)
			if n := r.Uint(c.most); n != 0 {
				t.Errorf("% X: %d", c.b, n)
			}
			expect(t, hexOf(c.b), r, ahead, c.err, ahead+c.place)
		}
	}
}

func TestP1_5TenthByte(t *testing.T) {
	for c := range 256 {
		r := Read(append(bytes.Repeat([]byte{0xFF}, 9), byte(c)))
		n := r.Uint(math.MaxUint64)
		if c == 1 {
			expect(t, "a tenth byte 1", r, 10, api.OK, 0)
			if n != math.MaxUint64 {
				t.Errorf("%d", n)
			}
			continue
		}
		expect(t, "a tenth byte that isn't 1", r, 0, api.ErrWireForm, 9)
	}
}

func TestP1_5TooEarly(t *testing.T) {
	for _, n := range edges() {
		form := PutUint(nil, n)
		for k := range form {
			r := Read(form[:k])
			r.Uint(n)
			expect(t, hexOf(form[:k]), r, 0, api.ErrWireShort, k)
		}
		if n > 0 {
			r := Read(form)
			r.Uint(n - 1)
			expect(t, "one above", r, 0, api.ErrWireLong, 0)
		}
	}
}

// uintWant tells what P1.5 says of the number at the beginning of b, byte by byte.
func uintWant(b []byte, most uint64) (n uint64, took int, err api.Errno, place int) {
	for i, c := range b {
		if i > 0 && c == 0 || i == 9 && c != 1 {
			return 0, 0, api.ErrWireForm, i
		}
		if c < 128 {
			for k := i; k >= 0; k-- {
				n = n*128 + uint64(b[k]%128)
			}
			if n > most {
				return 0, 0, api.ErrWireLong, 0
			}
			return n, i + 1, api.OK, 0
		}
	}
	return 0, 0, api.ErrWireShort, len(b)
}

func TestP1_5All(t *testing.T) {
	look := func(b []byte) {
		for _, most := range []uint64{0, 1, 127, 128, 300, 1<<63 - 1, math.MaxUint64} {
			n, took, err, place := uintWant(b, most)
			r := Read(b)
			if got := r.Uint(most); got != n {
				t.Errorf("% X, most %d: %d, want %d", b, most, got, n)
			}
			expect(t, hexOf(b), r, took, err, place)
		}
	}
	shorts(4, look)
	nines(look)
}

func TestP1_6Faults(t *testing.T) {
	for _, c := range []struct {
		b     []byte
		most  int
		err   api.Errno
		place int
	}{
		{nil, 9, api.ErrWireShort, 0},
		{nil, -1, api.ErrWireShort, 0},
		{[]byte{0x80}, 9, api.ErrWireShort, 1},
		{[]byte{0x80}, -1, api.ErrWireShort, 1},
		{[]byte{0x81, 0, 'a'}, 9, api.ErrWireForm, 1},
		{[]byte{0x81, 0, 'a'}, -1, api.ErrWireForm, 1},
		{[]byte{0}, -1, api.ErrWireLong, 0},
		{[]byte{0}, math.MinInt, api.ErrWireLong, 0},
		{[]byte{1, 'a'}, 0, api.ErrWireLong, 0},
		{[]byte{1}, 0, api.ErrWireLong, 0},
		{[]byte{3, 'a', 'b'}, 2, api.ErrWireLong, 0},
		{[]byte{3, 'a', 'b'}, 3, api.ErrWireShort, 3},
		{[]byte{1}, 1, api.ErrWireShort, 1},
		{PutUint(nil, math.MaxUint64), math.MaxInt, api.ErrWireLong, 0},
		{PutUint(nil, math.MaxInt64+1), math.MaxInt, api.ErrWireLong, 0},
		{PutUint(nil, math.MaxInt64), math.MaxInt, api.ErrWireShort, 9},
		{append(PutUint(nil, math.MaxInt64), 'a'), math.MaxInt, api.ErrWireShort, 10},
	} {
		for ahead := range 3 {
			r := Read(append(make([]byte, ahead), c.b...))
			r.Raw(ahead)
			if s := r.Text(c.most); s != "" {
				t.Errorf("% X: %q", c.b, s)
			}
			expect(t, hexOf(c.b), r, ahead, c.err, ahead+c.place)
		}
	}
}

func TestP1_6EmptyText(t *testing.T) {
	r := Read([]byte{0, 7})
	if s := r.Text(0); s != "" {
		t.Errorf("%q", s)
	}
	expect(t, "an empty text, most 0", r, 1, api.OK, 0)
}

func TestP1_6TooEarly(t *testing.T) {
	for _, s := range sayings() {
		form := PutText(nil, s)
		if len(form) > 500 {
			continue
		}
		for k := range form {
			r := Read(form[:k])
			if got := r.Text(len(s)); got != "" {
				t.Errorf("%d bytes of %d: %q", k, len(form), got)
			}
			expect(t, hexOf(form[:k]), r, 0, api.ErrWireShort, k)
		}
		r := Read(form)
		r.Text(len(s) - 1)
		expect(t, "one above", r, 0, api.ErrWireLong, 0)
	}
}

func TestP1_7End(t *testing.T) {
	for _, b := range [][]byte{nil, {}, {7}, {7, 8, 9}} {
		for taken := range len(b) + 1 {
			r := Read(b)
			r.Raw(taken)
			r.End()
			if taken < len(b) {
				expect(t, "bytes are left", r, taken, api.ErrWireRest, taken)
				continue
			}
			expect(t, "none is left", r, taken, api.OK, 0)
			r.End()
			expect(t, "End again", r, taken, api.OK, 0)
			r.Byte()
			expect(t, "a read behind End", r, taken, api.ErrWireShort, taken)
		}
	}
}
