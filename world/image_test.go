package world

import (
	"math/rand"
	"strings"
	"testing"

	"twine/api"
)

func TestP9_10Image(t *testing.T) {
	w := ground(t)
	ok(t, w.Create(api.A, "d.e"), w.Create(api.A, "d/x/f"), w.Append(api.A, "d/x/f", []byte("12")), w.Sync(api.A, "d/x/f"), w.Append(api.A, "d/x/f", []byte("3")), w.Mkdir(api.A, ".twine"))
	want(t, "A", told(w.Image(api.A)), strings.Join([]string{`"" 1 7 "" 0 1 1`, `".twine" 1 7 "" 0 11 1`, `"d" 1 7 "" 0 4 1`, `"d/x" 1 7 "" 0 5 1`, `"d/x/f" 2 7 "123" 2 10 1`, `"d.e" 2 7 "" 0 9 1`, `"f" 2 7 "abc" 0 6 1`, `"g" 2 7 "" 0 7 1`, `"l" 3 0 "t" 0 8 1`}, "\n"))
	want(t, "B", told(w.Image(api.B)), `"" 1 7 "" 0 2 1`)
	want(t, "S", told(w.Image(api.S)), `"" 1 7 "" 0 3 1`)
	for _, v := range volumesOut {
		want(t, "no volume", len(w.Image(v)), 0)
	}
}

// New over the images, with the same caps and clock, is a world that holds the same; behind a fall of both too, since it is sure of the names.
func TestP9_10Again(t *testing.T) {
	caps, clock, things := beginning()
	for seed := range int64(40) {
		u := author{rand.New(rand.NewSource(seed)), shallow}
		w, x := made(t, caps, clock, things), plainNew(caps, clock, things)
		for range 80 {
			a := u.next(x)
			x.do(a)
			ask(w, a)
			if u.r.Intn(9) == 0 {
				w.Tick()
				x.clock++
			}
		}
		images := [3][]api.Thing{w.Image(api.A), w.Image(api.B), w.Image(api.S)}
		again := made(t, caps, w.Clock(), images)
		want(t, "the same", whole(again), whole(w))
		edited(t, again, api.A, api.Edit{Kind: api.EditSettle})
		edited(t, w, api.A, api.Edit{Kind: api.EditSettle})
		ok(t, again.SyncVolume(api.B), w.SyncVolume(api.B), again.SyncVolume(api.S), w.SyncVolume(api.S))
		names, keep := u.survivors()
		want(t, "behind a fall", whole(again.After(names, keep)), whole(w.After(names, keep)))
	}
}

// Where the clock and the numbers are as great as they may be.
func TestP9_10MaxBegin(t *testing.T) {
	w := made(t, api.Caps{}, api.MaxBegin, [3][]api.Thing{{dirThing("", 1)}, {dirThing("", 2)}, {dirThing("", api.MaxBegin-1)}})
	ok(t, w.Create(api.A, "f"))
	want(t, "the last number", stat(t, w, api.A, "f"), api.Stat{Kind: api.File, Mode: 7, Number: api.MaxBegin, Stamp: api.MaxBegin})
	again := made(t, api.Caps{}, w.Clock(), [3][]api.Thing{w.Image(api.A), w.Image(api.B), w.Image(api.S)})
	want(t, "the same", whole(again), whole(w))
	ok(t, w.Create(api.A, "g"))
	refused(t, "one above", api.Caps{}, w.Clock(), [3][]api.Thing{w.Image(api.A), w.Image(api.B), w.Image(api.S)})
}

func TestP9_11Claims(t *testing.T) {
	w := empties(t)
	want(t, "nobody", w.Owns(0) || w.Owns(1) || w.Owns(-1), false)
	w.Release(0)
	w.Release(1)
	for i := range 5 {
		c := w.Claim()
		want(t, "one behind the other", c, i+1)
		want(t, "somebody has it", w.Claim(), 0)
		for _, other := range []int{0, c - 1, c + 1, -1, -c} {
			want(t, "another claim", w.Owns(other), false)
			w.Release(other)
			want(t, "released by another one", w.Owns(c), true)
			want(t, "somebody has it", w.Claim(), 0)
		}
		w.Release(c)
		want(t, "released", w.Owns(c), false)
		w.Release(c)
	}
	c := w.Claim()
	w.Fall([3]int{}, [3][]int{})
	want(t, "ended by a fall", w.Owns(c), false)
	w.Release(c)
	want(t, "the next one", w.Claim(), c+1)
	w.Release(c)
	want(t, "an old one releases nothing", w.Owns(c+1), true)
}

// A copy has the claim, too; from then on each goes its own way.
func TestP9_11Copy(t *testing.T) {
	w := empties(t)
	c := w.Claim()
	d := w.Copy()
	want(t, "the copy", d.Owns(c), true)
	want(t, "the copy", d.Claim(), 0)
	w.Release(c)
	want(t, "the copy", d.Owns(c), true)
	want(t, "the world", w.Claim(), 2)
	d.Release(c)
	want(t, "the copy", d.Claim(), 2)
}

// Claims and time touch nothing of the volumes, and nothing of these touches a claim.
func TestP9_11Beside(t *testing.T) {
	w := ground(t)
	c := w.Claim()
	edited(t, w, api.A, api.Edit{Kind: api.EditSettle})
	w.Rig(api.A, 0, 1, 0, false)
	w.Mkdir(api.A, "n")
	w.Tick()
	w.SyncVolume(api.A)
	w.After([3]int{}, [3][]int{})
	want(t, "the claim", w.Owns(c), true)
	before := whole(w)
	w.Release(c)
	w.Claim()
	want(t, "the volumes", whole(w), before)
}
