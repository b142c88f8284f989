package store

import (
	"bytes"
	"fmt"
	"sync"
	"testing"

	"twine/api"
)

// roomy: bytes with room behind them, and all of it.
func roomy(s string) ([]byte, []byte) {
	whole := append([]byte(s), bytes.Repeat([]byte{0xA5}, 64)...)
	return whole[:len(s)], whole
}

// fill overwrites bytes, and the room behind them.
func fill(b []byte) {
	b = b[:cap(b)]
	for i := range b {
		b[i] = 0x5A
	}
}

// Save takes the bytes as they are then: what becomes of them behind it, at any step, isn't seen; they, and the room behind them, stay as they are.
func TestP10_5BytesAreNeitherChangedNorKept(t *testing.T) {
	for _, size := range sizes {
		for at := range stepsOf(size) + 1 {
			b, whole := roomy(text(size))
			before := string(whole)
			w := worldOf(t, api.Caps{}, filed("old"), nothing, true)
			s := Save(w, b)
			for i := range stepsOf(size) {
				if i == at {
					want(t, "what was handed in", string(whole), before)
					fill(whole)
				}
				s.Step()
			}
			got, _ := bytesAt(w, "archive")
			want(t, fmt.Sprintf("%d bytes, filled behind step %d", size, at), got, text(size))
			if at == stepsOf(size) {
				want(t, "what was handed in, at the end", string(whole), before)
			}
		}
	}
}

// nil and an empty list are the same.
func TestP10_5NoBytes(t *testing.T) {
	for _, b := range [][]byte{nil, {}, []byte("abc")[:0]} {
		w := empties(t)
		s := Save(w, b)
		for i := range 5 {
			saves(t, "a step", s, i == 4, api.OK, max(i-2, 0))
		}
		got, there := bytesAt(w, "archive")
		want(t, "archive", got, "")
		want(t, "archive is there", there, true)
	}
}

// A fault that was answered may be changed: the next one is another.
func TestP10_3FaultsAreNewMemory(t *testing.T) {
	for what, at := range map[string]spot{"Decode's": filed(resealed(archiveOf(t, dir("", 7), 3), 9)), "the store's": emptyDir} {
		l := loaded(worldOf(t, api.Caps{}, at, nothing, true), 99, 1)
		m := loaderMachine{l}
		_, err := l.Step()
		f := err.(*api.Fault)
		was := *f
		for range 3 {
			*f = api.Fault{At: 99, Path: "waste", Err: 77}
			fails(t, what, l, was)
			_, err := l.Step()
			f = err.(*api.Fault)
		}
		want(t, what, m.step(), loaderTold(false, &was, nil, 0))
	}
}

// What a loader told stays, whatever becomes of the file and of the trees that are made of it.
func TestP10_4TreesStay(t *testing.T) {
	b := archiveOf(t, some(), 3)
	w := worldOf(t, api.Caps{}, filed(b), nothing, true)
	l := loaded(w, 99, 2)
	x, _ := l.Tree()
	_, e := x.Drop("a")
	ok(t, e)
	other := archiveOf(t, wide(3), 3)
	saved(w, other, stepsOf(len(other)))
	l.Step()
	tells(t, "behind a saver", l, some(), 3)
	tells(t, "another loader", loaded(w, 99, 2), wide(3), 3)
}

// What has ended holds neither the world nor the bytes any more.
func TestP10_3NothingElseIsKept(t *testing.T) {
	for what, at := range map[string]spot{"well": filed(archiveOf(t, some(), 3)), "with nothing there": nothing, "with an error": linked} {
		if l := loaded(worldOf(t, api.Caps{}, at, nothing, true), 99, 2); l.world != nil {
			t.Errorf("a loader that ended %s holds the world", what)
		}
	}
	for after := range 7 {
		w := empties(t)
		w.Rig(api.S, after, 1, 0, false)
		if s := saved(w, text(100), 6); s.world != nil || s.left != nil {
			t.Errorf("a saver whose call %d failed holds something", after)
		}
	}
}

// Loaders and savers over worlds of their own, at once.
func TestP10_6AtOnce(t *testing.T) {
	var all sync.WaitGroup
	for i := range 8 {
		b := archiveOf(t, wide(i), 1+i%3)
		all.Go(func() {
			for range 20 {
				w := empties(t)
				saved(w, b, stepsOf(len(b)))
				if got := read(w, 99); got != decoded(b, 99) {
					t.Errorf("%d: %s", i, got)
				}
			}
		})
	}
	all.Wait()
}
