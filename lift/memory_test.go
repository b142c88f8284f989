package lift

import (
	"bytes"
	"fmt"
	"sync"
	"testing"

	"twine/api"
)

// roomy: a copy of bytes with room behind them, and all of it.
func roomy(b []byte) ([]byte, []byte) {
	whole := append(bytes.Clone(b), bytes.Repeat([]byte{0xA5}, 64)...)
	return whole[:len(b)], whole
}

// fill overwrites bytes, and the room behind them.
func fill(b []byte) {
	b = b[:cap(b)]
	for i := range b {
		b[i] = 0x5A
	}
}

// What is handed in is neither changed nor kept, nor is the answer made of it, where they are the same bytes too.
func TestP7_3NewMemory(t *testing.T) {
	for from := 1; from <= 3; from++ {
		b := fileOf(t, some(), from)
		for to := from; to <= 3; to++ {
			what := fmt.Sprint("from ", from, " to ", to)
			want := fileOf(t, kept(some(), from), to)
			part, whole := roomy(b)
			before := bytes.Clone(whole)
			one := migrated(t, what, part, to, 99)
			two := migrated(t, what, part, to, 99)
			if !bytes.Equal(whole, before) {
				t.Errorf("%s: the bytes were changed, or the room behind them", what)
			}
			fill(two)
			if !bytes.Equal(one, want) || !bytes.Equal(whole, before) {
				t.Errorf("%s: an answer shares its memory", what)
			}
			fill(whole)
			if !bytes.Equal(one, want) {
				t.Errorf("%s: the answer changes with the bytes", what)
			}
			fill(one)
			if three := migrated(t, what, b, to, 99); !bytes.Equal(three, want) {
				t.Errorf("%s: a later answer has changed", what)
			}
		}
	}
}

// What is refused isn't changed either; the room behind it isn't read.
func TestP7_3RefusedBytesStay(t *testing.T) {
	b := fileOf(t, some(), 2)
	for n := range b {
		whole := bytes.Clone(b)
		if got, err := Migrate(whole[:n], 3, 99); got != nil || err == nil {
			t.Errorf("%d bytes, with the others behind them, are taken", n)
		}
		if !bytes.Equal(whole, b) {
			t.Errorf("%d bytes: they were changed", n)
		}
	}
	for _, to := range anyTo() {
		part, whole := roomy(b)
		before := bytes.Clone(whole)
		Migrate(part, to, 99)
		if !bytes.Equal(whole, before) {
			t.Errorf("to %d: the bytes were changed", to)
		}
	}
}

func TestP7_3FaultsAreNewMemory(t *testing.T) {
	b := fileOf(t, some(), 2)
	for _, c := range []bad{
		{"mark", nil, 99, api.Fault{At: 0, Err: api.ErrCodecMark}},
		{"back", b, 99, back()},
		{"bounds", b, 1, api.Fault{At: 5, Err: api.ErrCodecBounds}},
	} {
		_, err := Migrate(c.b, 1, c.most)
		*err.(*api.Fault) = api.Fault{At: 77, Path: "x", Err: 1}
		refused(t, c.why, c.b, 1, c.most, c.want)
	}
}

// Calls don't touch one another.
func TestP7_CallsAtOnce(t *testing.T) {
	x := of(t, some())
	var wg sync.WaitGroup
	for i := range 24 {
		wg.Go(func() {
			from := 1 + i%3
			b := fileOf(t, some(), from)
			for range 20 {
				isTree(t, "at once", Project(x, from), kept(some(), from))
				if got := migrated(t, "at once", b, 3, 99); !bytes.Equal(got, fileOf(t, kept(some(), from), 3)) {
					t.Errorf("from %d: other bytes", from)
				}
				if v, ok := Version(b); v != from || !ok {
					t.Errorf("version %d", v)
				}
			}
		})
	}
	wg.Wait()
}
