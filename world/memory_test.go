package world

import (
	"bytes"
	"fmt"
	"math/rand"
	"reflect"
	"sync"
	"testing"

	"twine/api"
)

// waste fills a list's bytes, and its spare room, with others.
func waste(b []byte) {
	b = b[:cap(b)]
	for i := range b {
		b[i] = '#'
	}
}

// roomy: bytes with spare room behind them.
func roomy(s string) []byte {
	return append(append(make([]byte, 0, len(s)+9), s...), "*********"...)[:len(s)]
}

// What is handed in is neither changed nor kept, its spare room too.
func TestP9_1HandedIn(t *testing.T) {
	_, clock, things := beginning()
	data := [][]byte{roomy("abcde"), roomy("a/b")}
	things[0][0].Data, things[0][2].Data = data[0], data[1]
	things[0] = append(append(make([]api.Thing, 0, 9), things[0]...), api.Thing{Path: "waste"})[:3]
	w := made(t, api.Caps{}, clock, things)
	before := whole(w)
	_, _, fresh := beginning()
	for v := range things {
		if len(things[v]) > 0 && !reflect.DeepEqual(things[v], fresh[v]) {
			t.Errorf("New changes its things: %v", things[v])
		}
	}
	want(t, "the room behind them", things[0][:4][3].Path, "waste")
	ok(t, w.Append(api.A, "a/b", []byte("xyz")))
	want(t, "the bytes", string(data[0][:14]), "abcde*********")
	w.Fall([3]int{}, [3][]int{})
	w = made(t, api.Caps{}, clock, things)
	for _, b := range data {
		waste(b)
	}
	clear(things[0][:cap(things[0])])
	want(t, "laid waste", whole(w), before)
}

func TestP9_4HandedIn(t *testing.T) {
	w := empties(t)
	ok(t, w.Create(api.A, "f"), w.Create(api.B, "f"))
	b := roomy("abc")
	ok(t, w.Append(api.A, "f", b), w.Append(api.B, "f", b))
	want(t, "Append", string(b[:12]), "abc*********")
	waste(b)
	ok(t, w.Append(api.A, "f", []byte("d")))
	want(t, "A", read(t, w, api.A, "f"), "abcd")
	want(t, "B", read(t, w, api.B, "f"), "abc")
	for _, kind := range []int{api.EditFile, api.EditWrite, api.EditAppend} {
		for _, p := range []string{"n", "f"} {
			if (kind == api.EditFile) != (p == "n") {
				continue
			}
			w := w.Copy()
			b := roomy("xyz")
			edited(t, w, api.A, api.Edit{Kind: kind, Path: p, Data: b}, api.Edit{Kind: api.EditAppend, Path: p, Data: []byte("!")})
			want(t, "Edit", string(b[:12]), "xyz*********")
			waste(b)
			wanted := map[int]string{api.EditFile: "xyz!", api.EditWrite: "xyz!", api.EditAppend: "abcdxyz!"}[kind]
			want(t, fmt.Sprint("kind ", kind), read(t, w, api.A, p), wanted)
		}
	}
	w.Rig(api.A, 0, 1, 2, false)
	b = roomy("123")
	w.Append(api.A, "f", b)
	want(t, "a part", string(b[:12]), "123*********")
	waste(b)
	want(t, "a part", read(t, w, api.A, "f"), "abcd12")
}

func TestP9_8HandedIn(t *testing.T) {
	w := ground(t)
	keep := [3][]int{append(make([]int, 0, 5), 2, -1), nil, {7}}
	w.After([3]int{9}, keep)
	w.Fall([3]int{9}, keep)
	if !reflect.DeepEqual(keep, [3][]int{{2, -1}, nil, {7}}) || !reflect.DeepEqual(keep[0][:5], []int{2, -1, 0, 0, 0}) {
		t.Errorf("keep is changed: %v", keep)
	}
}

// What is answered is new memory, its spare room too.
func TestP9_6NewMemory(t *testing.T) {
	w := ground(t)
	before := whole(w)
	one, _ := w.Read(api.A, "f", 6, 0, 9)
	two, _ := w.Read(api.A, "f", 6, 0, 9)
	waste(one)
	want(t, "two Reads", string(two), "abc")
	part, _ := w.Read(api.A, "f", 6, 0, 1)
	none, _ := w.Read(api.A, "f", 6, 1, 0)
	waste(part)
	waste(none)
	_ = append(part, "waste"...)
	_ = append(none, "waste"...)
	list, _ := w.List(api.A, "")
	again, _ := w.List(api.A, "")
	clear(list[:cap(list)])
	want(t, "two Lists", fmt.Sprint(again), "[d f g l]")
	want(t, "the world", whole(w), before)
	ok(t, w.Append(api.A, "f", []byte("d")))
	want(t, "an answer from ahead of it", string(two), "abc")
	waste(two)
	want(t, "the world", read(t, w, api.A, "f"), "abcd")
}

func TestP9_10NewMemory(t *testing.T) {
	w := ground(t)
	ok(t, w.Append(api.A, "g", bytes.Repeat([]byte("x"), 100)))
	before := whole(w)
	one, two := w.Image(api.A), w.Image(api.A)
	for i := range one {
		waste(one[i].Data)
		_ = append(one[i].Data, "waste"...)
	}
	clear(one[:cap(one)])
	want(t, "the world", whole(w), before)
	for i := range two {
		_ = append(two[i].Data, "waste"...)
		waste(two[i].Data[len(two[i].Data):])
	}
	want(t, "no two lists of one answer share any", told(two), told(w.Image(api.A)))
	was := told(two)
	ok(t, w.Append(api.A, "f", []byte("more")), w.Append(api.A, "g", []byte("more")), w.Chmod(api.A, "d", 1), w.Remove(api.A, "l"))
	w.Fall([3]int{}, [3][]int{})
	want(t, "an image stays", told(two), was)
}

// A world and its copy touch one another nowhere, whichever is changed first, also where bytes are laid behind the same ones.
func TestP9_8CopyStandsAlone(t *testing.T) {
	for seed := range int64(40) {
		caps, clock, things := beginning()
		u := author{rand.New(rand.NewSource(4000 + seed)), shallow}
		w, x := made(t, caps, clock, things), plainNew(caps, clock, things)
		play(t, "ahead", seed, 60, w, x, u)
		type pair struct {
			w *World
			x *plainWorld
		}
		l := []pair{{w, x}, {w.Copy(), x.copy()}, {w.After([3]int{3, 3, 3}, [3][]int{{1}, {2}, nil}), nil}, {w.Copy().Copy(), x.copy()}}
		y := x.copy()
		y.fall([3]int{3, 3, 3}, [3][]int{{1}, {2}, nil})
		l[2].x = y
		for i := range 60 {
			p := l[u.r.Intn(len(l))]
			play(t, fmt.Sprint("beside, ", i), seed, 5, p.w, p.x, u)
			for k, q := range l {
				if got, wanted := whole(q.w), plainWhole(q.x); got != wanted {
					t.Fatalf("seed %d, round %d: world %d has changed: %s\nwant %s", seed, i, k, got, wanted)
				}
			}
		}
	}
}

// Bytes are laid behind those that several copies share, in one after the other.
func TestP9_8SharedBytes(t *testing.T) {
	w := empties(t)
	ok(t, w.Create(api.A, "f"))
	for range 40 { // so that there is spare room
		ok(t, w.Append(api.A, "f", []byte("abc")))
	}
	text := read(t, w, api.A, "f")
	c := w.Copy()
	d := c.Copy()
	e := w.After([3]int{9}, [3][]int{{7}})
	ok(t, c.Append(api.A, "f", []byte("c")), w.Append(api.A, "f", []byte("w")), d.Append(api.A, "f", []byte("d")), e.Append(api.A, "f", []byte("e")))
	want(t, "w", read(t, w, api.A, "f"), text+"w")
	want(t, "c", read(t, c, api.A, "f"), text+"c")
	want(t, "d", read(t, d, api.A, "f"), text+"d")
	want(t, "e", read(t, e, api.A, "f"), text[:7]+"e")
}

// What is gone in a world and in its copy comes back in each as it was there.
func TestP9_8GoneInBoth(t *testing.T) {
	w := ground(t)
	ok(t, w.SyncVolume(api.A), w.Remove(api.A, "g"))
	c := w.Copy()
	for i, x := range []*World{w, c} {
		ok(t, x.Append(api.A, "f", []byte{byte('0' + i)}), x.Chmod(api.A, "f", i), x.Remove(api.A, "f"))
	}
	for i, x := range []*World{w, c} {
		x.Fall([3]int{2}, [3][]int{{9}})
		want(t, "the bytes", read(t, x, api.A, "f"), fmt.Sprint("abc", i))
		want(t, "the stamp", stat(t, x, api.A, "f"), api.Stat{Kind: api.File, Mode: i, Size: 4, Number: 6, Stamp: 1})
	}
}

// What is kept is no more than a fall may need: of what is gone nothing, once that is sure.
func TestP9_8NothingElseIsKept(t *testing.T) {
	caps, clock, things := beginning()
	u := author{rand.New(rand.NewSource(5000)), shallow}
	w, x := made(t, caps, clock, things), plainNew(caps, clock, things)
	for i := range 200 {
		play(t, "kept", 5000, 10, w, x, u)
		for v := range 3 {
			c := w.Copy()
			if i%2 == 0 {
				c.Fall([3]int{i % 7, i % 5, i % 3}, [3][]int{})
			} else {
				c.volumes[v].rigs = [2]rig{}
				ok(t, c.SyncVolume(v))
			}
			k := &c.volumes[v]
			dirs := 0
			for _, f := range c.Image(v) {
				if f.Kind == api.Dir {
					dirs++
				}
			}
			got := []int{len(k.things), len(k.modes), len(k.now), len(k.names), len(k.gone), len(k.changes)}
			n := len(c.Image(v))
			want(t, fmt.Sprint("volume ", v), fmt.Sprint(got), fmt.Sprint([]int{n, n, dirs, dirs, 0, 0}))
		}
	}
}

// Copies from one world are made, looked at and changed at once.
func TestP9_8AtOnce(t *testing.T) {
	w := ground(t)
	before := whole(w)
	var all sync.WaitGroup
	for i := range 8 {
		all.Go(func() {
			for range 20 {
				c := w.Copy()
				c.Append(api.A, "f", []byte{byte(i)})
				c.Mkdir(api.A, "n")
				c.Fall([3]int{9}, [3][]int{{9}})
				if got, _ := c.Read(api.A, "f", 6, 0, 9); string(got) != "abc"+string(rune(i)) {
					t.Errorf("%q", got)
				}
				w.After([3]int{3}, [3][]int{{1}})
			}
		})
	}
	all.Wait()
	want(t, "the world", whole(w), before)
}

// Several worlds beside one another, at once: each as if it were alone.
func TestP9_1Beside(t *testing.T) {
	caps, clock, things := beginning()
	alone := func(seed int64) string {
		u := author{rand.New(rand.NewSource(seed)), shallow}
		w, x := made(t, caps, clock, things), plainNew(caps, clock, things)
		for range 200 {
			a := u.next(x)
			x.do(a)
			ask(w, a)
		}
		return whole(w)
	}
	var wanted, got [8]string
	for i := range wanted {
		wanted[i] = alone(int64(i))
	}
	var all sync.WaitGroup
	for i := range got {
		all.Go(func() { got[i] = alone(int64(i)) })
	}
	all.Wait()
	want(t, "at once", got, wanted)
}

// What a refused call, and a call without an answer, leaves of the other results is zero.
func TestP9_6ZeroBesideErrors(t *testing.T) {
	w := ground(t)
	for _, p := range []string{"no", "f/x", "a//b", "d"} {
		b, e := w.Read(api.A, p, 4, 0, 9)
		if e == api.OK || len(b) != 0 {
			t.Errorf("Read of %q: %q, %d", p, b, e)
		}
		s, e := w.Target(api.A, p)
		if e == api.OK || s != "" {
			t.Errorf("Target of %q: %q, %d", p, s, e)
		}
	}
	w.Rig(api.A, 0, 4, 0, true)
	st, e := w.Stat(api.A, "f")
	want(t, "Stat", fmt.Sprint(st, e), fmt.Sprint(api.Stat{}, api.ErrWorldFault))
	l, e := w.List(api.A, "d")
	want(t, "List", fmt.Sprint(len(l), e), fmt.Sprint(0, api.ErrWorldFault))
	b, e := w.Read(api.A, "f", 6, 0, 9)
	want(t, "Read", fmt.Sprint(len(b), e), fmt.Sprint(0, api.ErrWorldFault))
	s, e := w.Target(api.A, "l")
	want(t, "Target", fmt.Sprint(s, e), fmt.Sprint("", api.ErrWorldFault))
}
