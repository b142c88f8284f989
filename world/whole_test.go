package world

import (
	"fmt"
	"math/rand"
	"testing"

	"twine/api"
)

// What a Sync made sure of a file's bytes, and a SyncVolume of its name, is there behind every fall, as long as nobody changed either since.
func TestP9_12Sure(t *testing.T) {
	type held struct{ path, data string }
	for seed := range int64(60) {
		caps, clock, things := beginning()
		u := author{rand.New(rand.NewSource(1000 + seed)), shallow}
		w, x := made(t, caps, clock, things), plainNew(caps, clock, things)
		var synced [3]map[int]string       // bytes, by number, that a Sync made sure and nobody changed since
		var named [3]map[string]int        // names that a SyncVolume made sure
		var files [3]map[int]held          // both
		look := func(v int) map[int]held { // what the volume has now
			m := map[int]held{}
			for _, f := range w.Image(v) {
				if f.Kind == api.File {
					m[f.Number] = held{f.Path, string(f.Data)}
				}
			}
			return m
		}
		for v := range 3 {
			synced[v], named[v], files[v] = map[int]string{}, map[string]int{}, map[int]held{}
		}
		checked := 0
		for range 120 {
			a := u.next(x)
			x.do(a)
			_, e := ask(w, a)
			if a.volume < 0 || a.volume > 2 {
				continue
			}
			v := a.volume
			now := look(v)
			for number, data := range synced[v] {
				if now[number].data != data {
					delete(synced[v], number)
				}
			}
			if e == api.OK {
				switch a.what {
				case "sync":
					s := stat0(w, v, a.paths[0])
					synced[v][s.Number] = now[s.Number].data
				case "syncthing":
					synced[v][a.number] = now[a.number].data
				case "write": // the same bytes, laid anew, aren't sure
					delete(synced[v], stat0(w, v, a.paths[0]).Number)
				case "settle", "syncvolume":
					named[v] = map[string]int{}
					for number, f := range now {
						named[v][f.path] = number
						if a.what == "settle" {
							synced[v][number] = f.data
						}
					}
				}
			}
			for p, number := range named[v] {
				if now[number].path != p {
					delete(named[v], p)
				}
			}
			clear(files[v])
			for p, number := range named[v] {
				if data, ok := synced[v][number]; ok {
					files[v][number] = held{p, data}
				}
			}
			names, keep := u.survivors()
			after := w.After(names, keep)
			for number, f := range files[v] {
				checked++
				s := stat0(after, v, f.path)
				b, e := after.Read(v, f.path, number, 0, 1<<30)
				if s.Number != number || e != api.OK || string(b) != f.data {
					t.Fatalf("seed %d: %q of number %d: %d, %q, %d, want %q", seed, f.path, number, s.Number, b, e, f.data)
				}
			}
		}
		if seed == 0 && checked == 0 {
			t.Error("nothing was sure")
		}
	}
}

// stat0: as an unrigged Stat, by the image.
func stat0(w *World, v int, p string) api.Stat {
	for _, x := range w.Image(v) {
		if x.Path == p {
			return api.Stat{Kind: x.Kind, Number: x.Number, Stamp: x.Stamp}
		}
	}
	return api.Stat{}
}

// A fall leaves of a volume's names one of the states that they were in since its last SyncVolume: that behind as many changes.
func TestP9_12States(t *testing.T) {
	for seed := range int64(40) {
		caps, clock, things := beginning()
		u := author{rand.New(rand.NewSource(2000 + seed)), shallow}
		w, x := made(t, caps, clock, things), plainNew(caps, clock, things)
		var states [3][]string
		for v := range 3 {
			states[v] = []string{namesOf(w, v)}
		}
		for range 100 {
			a := u.next(x)
			x.do(a)
			_, e := ask(w, a)
			if v := a.volume; v >= 0 && v < 3 && e == api.OK {
				switch now := namesOf(w, v); {
				case a.what == "syncvolume" || a.what == "settle":
					states[v] = []string{now}
				case a.what == "chmod" || now != states[v][len(states[v])-1]:
					states[v] = append(states[v], now)
				}
			}
			names, keep := u.survivors()
			after := w.After(names, keep)
			for v := range 3 {
				wanted := states[v][min(max(names[v], 0), len(states[v])-1)]
				if got := namesOf(after, v); got != wanted {
					t.Fatalf("seed %d, volume %d, names %d: %s\nwant %s", seed, v, names[v], got, wanted)
				}
			}
		}
	}
}

// A number and a stamp, seen when the clock was above the stamp, tell bytes and mode: for ever.
func TestP9_13NumberAndStampTellBytes(t *testing.T) {
	type mark struct{ number, stamp int }
	for seed := range int64(60) {
		caps, clock, things := beginning()
		u := author{rand.New(rand.NewSource(3000 + seed)), shallow}
		w, x := made(t, caps, clock, things), plainNew(caps, clock, things)
		seen := map[mark]string{}
		for i := range 250 {
			switch n := u.r.Intn(20); {
			case n == 0:
				names, keep := u.survivors()
				w.Fall(names, keep)
				x.fall(names, keep)
			case n < 5:
				w.Tick()
				x.clock++
			case n == 6:
				w.Rig(api.A, 0, 1, 2, false)
				x.volumes[api.A].rigs[false] = [3]int{0, 1, 2}
			default:
				a := u.next(x)
				x.do(a)
				ask(w, a)
			}
			for v := range 3 {
				for _, f := range w.Image(v) {
					m := mark{f.Number, f.Stamp}
					is := fmt.Sprintf("%d %d %q", f.Kind, f.Mode, f.Data)
					if was, ok := seen[m]; ok && was != is {
						t.Fatalf("seed %d, step %d: number %d, stamp %d: %s, and %s", seed, i, f.Number, f.Stamp, was, is)
					}
					if f.Stamp < w.Clock() {
						seen[m] = is
					}
				}
			}
		}
	}
}
