package store

import (
	"fmt"
	"math/rand"
	"testing"

	"twine/api"
	"twine/codec"
	"twine/world"
)

// survivors: ways for a fall of S to leave names and bytes.
func survivors() (l []func(w *world.World) *world.World) {
	for _, names := range []int{-1, 0, 1, 2, 3, 4, 9} {
		for _, keep := range [][]int{nil, {-1}, {0}, {1}, {88, 300}, {511}, {512}, {513}, {1 << 20}, {0, 1 << 20}, {1 << 20, 0}} {
			l = append(l, func(w *world.World) *world.World {
				return w.After([3]int{names, names, names}, [3][]int{keep, keep, keep})
			})
		}
	}
	return l
}

// held: what `archive` is.
func held(w *world.World) string {
	for _, x := range w.Image(api.S) {
		if x.Path == "archive" {
			return fmt.Sprintf("%d %q", x.Kind, x.Data)
		}
	}
	return "nothing"
}

// A fall behind each step, with any survivors, leaves the old bytes, the old or the new ones, the new ones, as Where tells.
func TestP10_8Fall(t *testing.T) {
	both := 0
	for _, size := range []int{0, 1, 511, 512, 513, 600, 1024, 1200} {
		for _, at := range []spot{nothing, filed(""), filed("old"), filed(text(1700))} {
			w := worldOf(t, api.Caps{}, at, nothing, true)
			old, fresh := held(w), fmt.Sprintf("%d %q", api.File, text(size))
			s := Save(w, []byte(text(size)))
			for i := 0; i <= stepsOf(size)+1; i++ {
				seen := map[string]int{}
				for _, fall := range survivors() {
					got := held(fall(w))
					seen[got]++
					what := fmt.Sprintf("%d bytes over %s, behind step %d, Where %d", size, at.what, i, s.Where())
					switch s.Where() {
					case api.SavedNo:
						want(t, what, got, old)
					case api.SavedPerhaps:
						if got != old && got != fresh {
							t.Errorf("%s: %s", what, got)
						}
					case api.SavedYes:
						want(t, what, got, fresh)
					}
				}
				if seen[old] > 0 && seen[fresh] > 0 {
					both++
				}
				s.Step()
			}
			want(t, "Where, at the end", s.Where(), api.SavedYes)
		}
	}
	if both < 8 {
		t.Errorf("but %d falls leave either", both)
	}
}

// The same where a call fails on the way: what Where tells then holds for good.
func TestP10_8FallBehindAFault(t *testing.T) {
	const size = 600
	for k := range stepsOf(size) {
		for _, part := range []int{0, 100, 512} {
			for _, at := range []spot{nothing, filed("old")} {
				w := worldOf(t, api.Caps{}, at, nothing, true)
				old, fresh := held(w), fmt.Sprintf("%d %q", api.File, text(size))
				w.Rig(api.S, k, 1, part, false)
				s := saved(w, text(size), stepsOf(size)+3)
				for _, fall := range survivors() {
					got := held(fall(w))
					if got != old && (s.Where() == api.SavedNo || got != fresh) {
						t.Errorf("call %d fails, Where %d: %s", k, s.Where(), got)
					}
				}
				want(t, "Where", s.Where() == api.SavedPerhaps, k == stepsOf(size)-1)
			}
		}
	}
}

// archives: bytes to save: each version, and bytes that are none.
func archives(t testing.TB) []string {
	l := []string{"", "abc", text(513), text(1024)}
	for version := 1; version <= 3; version++ {
		l = append(l, archiveOf(t, some(), version), archiveOf(t, dir("", 7), version), archiveOf(t, wide(50), version))
	}
	return append(l, resealed(archiveOf(t, some(), 3), 10), archiveOf(t, some(), 3)+"x")
}

// decoded: what a loader tells that reads these bytes.
func decoded(b string, most int) string {
	x, version, err := codec.Decode([]byte(b), most)
	return loaderTold(err == nil, err, x, version)
}

// read: what a new loader tells.
func read(w *world.World, most int) string {
	m := loaderMachine{Load(w, most)}
	m.step()
	return m.step()
}

// A loader behind a saver, behind a fall, behind a second saver, behind further falls.
func TestP10_9Saved(t *testing.T) {
	all := archives(t)
	for i, b := range all {
		for _, most := range []int{0, 7, 8, api.MaxNodes} {
			for _, at := range []spot{nothing, filed("old"), linked} {
				w := worldOf(t, api.Caps{}, at, nothing, true)
				saves(t, "the last step", saved(w, b, stepsOf(len(b))-1), true, api.OK, api.SavedYes)
				what := fmt.Sprintf("%d bytes over %s, most %d", len(b), at.what, most)
				want(t, what, read(w.Copy(), most), decoded(b, most))
				w.Fall([3]int{}, [3][]int{})
				want(t, what+", behind a fall", read(w, most), decoded(b, most))
				next := all[(i+1)%len(all)]
				saved(w, next, stepsOf(len(next)))
				want(t, what+", behind a second saver", read(w, most), decoded(next, most))
				w.Fall([3]int{}, [3][]int{{}, {}, {1}})
				want(t, what+", behind that and a fall", read(w, most), decoded(next, most))
			}
		}
	}
}

// A fall behind each step of a saver over an archive: a loader tells the old or the new one's tree, and a second saver comes to its end.
func TestP10_9FallThenLoad(t *testing.T) {
	old, next, third := archiveOf(t, some(), 2), archiveOf(t, wide(30), 3), archiveOf(t, dir("", 3), 3)
	for steps := range stepsOf(len(next)) + 1 {
		for _, fall := range survivors() {
			w := worldOf(t, api.Caps{}, filed(old), nothing, true)
			where := saved(w, next, steps).Where()
			w = fall(w)
			got := read(w, 99)
			what := fmt.Sprintf("behind step %d", steps)
			switch {
			case where == api.SavedNo:
				want(t, what, got, decoded(old, 99))
			case where == api.SavedYes || got != decoded(old, 99):
				want(t, what, got, decoded(next, 99))
			}
			saves(t, what+": a further saver", saved(w, third, stepsOf(len(third))-1), true, api.OK, api.SavedYes)
			want(t, what+": a further loader", read(w, 99), decoded(third, 99))
		}
	}
}

// What a loader told is sure, though nothing of S was sure ahead of it: behind each later fall, and each further one.
func TestP10_9Told(t *testing.T) {
	lost := 0
	for _, at := range spots(t) {
		for _, atFresh := range freshSpots() {
			if atFresh == fullDir {
				continue // nothing is told of `archive` then
			}
			w := worldOf(t, api.Caps{}, at, atFresh, false)
			if held(w.After([3]int{}, [3][]int{})) != held(w) {
				lost++
			}
			got := read(w, 99)
			for i, fall := range survivors() {
				what := fmt.Sprintf("%s, new: %s, fall %d", at.what, atFresh.what, i)
				x := fall(w)
				want(t, what, read(x, 99), got)
				want(t, what+", and one more", read(fall(x), 99), got)
			}
		}
	}
	if lost < 20 {
		t.Errorf("but %d of these worlds would have lost anything", lost)
	}
}

// That nothing stands there is sure as well, though something did that was sure.
func TestP10_9ToldNothing(t *testing.T) {
	for _, fall := range survivors() {
		w := worldOf(t, api.Caps{}, filed(archiveOf(t, some(), 3)), nothing, true)
		ok(t, w.Remove(api.S, "archive"))
		l := loaded(w, 99, 2)
		tells(t, "ahead of a fall", l, dir("", 8), 0)
		tells(t, "behind it", loaded(fall(w), 99, 2), dir("", 8), 0)
	}
}

// Bytes that were laid behind those that are sure become sure by the loader.
func TestP10_9ToldBytes(t *testing.T) {
	b := archiveOf(t, wide(40), 3)
	for _, sure := range []int{0, 1, len(b) - 1, len(b)} {
		for _, fall := range survivors() {
			w := worldOf(t, api.Caps{}, filed(b[:sure]), nothing, true)
			ok(t, w.Append(api.S, "archive", []byte(b[sure:])))
			tells(t, "ahead of a fall", loaded(w, 99, 2), nodeOf(t, b), 3)
			tells(t, "behind it", loaded(fall(w), 99, 2), nodeOf(t, b), 3)
		}
	}
}

// orders gives each order of so many steps of one machine, and so many of another.
func orders(one, other int, f func(order []int)) {
	var from func(order []int, left [2]int)
	from = func(order []int, left [2]int) {
		if left == [2]int{} {
			f(order)
			return
		}
		for i := range left {
			if left[i] > 0 {
				rest := left
				rest[i]--
				from(append(order, i), rest)
			}
		}
	}
	from(make([]int, 0, one+other), [2]int{one, other})
}

// played lets the machines of a pair go in an order, each step told alike, and looks at both worlds then.
func (p *pair) played(t testing.TB, what string, order []int) bool {
	t.Helper()
	for k, i := range order {
		if !p.step(t, fmt.Sprintf("%s, order %v, step %d", what, order, k), i) {
			return false
		}
	}
	return p.near(t, fmt.Sprintf("%s, order %v", what, order))
}

// Two machines over one world, in every order of their steps: each does its calls and tells of them alone.
func TestP10_6TwoInEveryOrder(t *testing.T) {
	b, c := archiveOf(t, some(), 3), archiveOf(t, wide(3), 2)
	for _, at := range []spot{nothing, filed(archiveOf(t, dir("", 1), 3))} {
		for _, atFresh := range []spot{nothing, filed("x"), emptyDir, fullDir} {
			w := worldOf(t, api.Caps{}, at, atFresh, false)
			n := stepsOf(len(b)) + 1
			orders(n, stepsOf(len(c))+1, func(order []int) {
				p := paired(w.Copy())
				p.save(b)
				p.save(c)
				p.played(t, "two savers", order)
			})
			orders(n, 3, func(order []int) {
				p := paired(w.Copy())
				p.save(b)
				p.load(99)
				p.played(t, "a saver and a loader", order)
			})
			orders(3, 3, func(order []int) {
				p := paired(w.Copy())
				p.load(99)
				p.load(2)
				p.played(t, "two loaders", order)
			})
			if t.Failed() {
				return
			}
		}
	}
}

// Two loaders and two savers, others' changes, faults and falls between, in random orders.
func TestP10_6FourAmongOthers(t *testing.T) {
	bytes := archives(t)
	ats, freshs := spots(t), freshSpots()
	for seed := range int64(1500) {
		r := rand.New(rand.NewSource(seed))
		caps := api.Caps{}
		if r.Intn(3) == 0 {
			caps.Bytes[api.S] = 6000 + r.Intn(3000)
		}
		p := paired(worldOf(t, caps, ats[r.Intn(len(ats))], freshs[r.Intn(len(freshs))], r.Intn(2) == 0))
		p.load(r.Intn(60))
		p.load(api.MaxNodes)
		p.save(bytes[r.Intn(len(bytes))])
		p.save(bytes[r.Intn(len(bytes))])
		for k := range 40 {
			what := fmt.Sprintf("seed %d, step %d", seed, k)
			if r.Intn(12) == 0 {
				other(r.Int63(), p.w, p.plain)
			} else if !p.step(t, what, r.Intn(len(p.machines))) || !p.near(t, what) {
				return
			}
			if len(p.machines) < 8 && r.Intn(20) == 0 {
				p.load(99)
				p.save(bytes[r.Intn(len(bytes))])
			}
		}
		if !p.alike(t, fmt.Sprint("seed ", seed)) {
			return
		}
	}
}

// other lets somebody else do something, to each world the same.
func other(seed int64, worlds ...*world.World) {
	for _, w := range worlds {
		r := rand.New(rand.NewSource(seed))
		p := []string{"archive", "archive.new"}[r.Intn(2)]
		switch r.Intn(9) {
		case 0:
			w.Remove(api.S, p)
		case 1:
			w.Create(api.S, p)
		case 2:
			w.Mkdir(api.S, p)
		case 3:
			w.Append(api.S, p, []byte("others"))
		case 4:
			w.Rename(api.S, p, "archive")
		case 5:
			w.Fall([3]int{0, 0, r.Intn(5)}, [3][]int{{}, {}, {r.Intn(600)}})
		case 6:
			w.Rig(api.S, r.Intn(4), 1+r.Intn(2), r.Intn(600), r.Intn(2) == 0)
		case 7:
			w.Exchange(api.S, "archive", "archive.new")
		case 8:
			w.Tick()
		}
	}
}
