package apply

import (
	"fmt"
	"math/rand"
	"strings"
	"testing"

	"twine/api"
	"twine/tree"
	"twine/world"
)

// This file: items during which users edit, others are busy at the staging path, calls fail, the clock ticks and the power falls, by chance, each held against the plain one.

// author: who makes up volumes and what is done to them.
type author struct{ r *rand.Rand }

func (u author) of(l ...string) string { return l[u.r.Intn(len(l))] }

func (u author) one(l ...int) int { return l[u.r.Intn(len(l))] }

func (u author) name() string { return u.of("a", "b", "a.b", "a!", "d", "\xff") }

func (u author) data() string {
	size := u.one(0, 0, 1, 2, 40, 511, 512, 513, 600, 1024, 1025, 1300)
	if u.r.Intn(2) == 0 {
		return text(size + 7)[7:]
	}
	return strings.Repeat(u.of("p", "q", "r"), size)
}

func (u author) target() string { return u.of("x", "y", "../y", strings.Repeat("t", 600)) }

// things: of a volume; numbers from a first one on.
func (u author) things(number int) []api.Thing {
	dirs := []string{""}
	var l []api.Thing
	taken := map[string]bool{}
	for range 2 + u.r.Intn(14) {
		p := joined(dirs[u.r.Intn(len(dirs))], u.name())
		if taken[p] || strings.Count(p, "/") > 3 {
			continue
		}
		taken[p] = true
		number++
		switch u.r.Intn(5) {
		case 0, 1:
			l = append(l, dirAt(p, u.r.Intn(8), number))
			dirs = append(dirs, p)
		case 2:
			l = append(l, linkAt(p, u.target(), number))
		default:
			x := fileAt(p, u.r.Intn(8), u.data(), number)
			x.Sure = len(x.Data) - u.r.Intn(2)*u.r.Intn(len(x.Data)+1)
			l = append(l, x)
		}
	}
	return l
}

// roomy: a world without bounds, with a staging place in A and in B.
func (u author) roomy(t testing.TB) *world.World {
	return worldOf(t, api.Caps{}, u.things(0), u.things(100))
}

// world: seldom with little room, or without a staging place.
func (u author) world(t testing.TB) *world.World {
	if u.r.Intn(6) > 0 {
		return u.roomy(t)
	}
	things := [3][]api.Thing{u.things(0), u.things(100)}
	caps := api.Caps{}
	for v, l := range things {
		caps.Names[v] = len(l) + u.r.Intn(6) + 1
		caps.Bytes[v] = 1 + u.r.Intn(3000)
		for _, x := range l {
			if x.Kind == api.File {
				caps.Bytes[v] += len(x.Data)
			}
		}
		if u.r.Intn(3) > 0 {
			things[v] = append(l, dirAt(".twine", 7, 300+v))
		}
	}
	w, e := world.New(caps, 3, things)
	wantOK(t, "world.New", e)
	return w
}

// stands: a path of a volume, mostly not far down; not the staging place's.
func (u author) stands(w *world.World, v int) string {
	l := w.Image(v)
	for range 40 {
		p := l[u.r.Intn(len(l))].Path
		if !lies(p, ".twine") && strings.Count(p, "/") < 2 {
			return p
		}
	}
	return ""
}

// item: a Carry of a path at which something stands, or, seldom, the mode of a directory that is on both sides.
func (u author) item(w *world.World, number int) api.Item {
	from := u.r.Intn(2)
	if u.r.Intn(8) == 0 {
		at := u.stands(w, from)
		for v := range 2 {
			if s, e := w.Copy().Stat(v, at); e != api.OK || s.Kind != api.Dir {
				at = ""
			}
		}
		return both(number, at, from, u.r.Intn(8))
	}
	it := carry(number, "", from)
	for range 40 {
		if p := u.stands(w, u.r.Intn(2)); p != "" {
			it.Path = p
			if wayThere(w, it) || u.r.Intn(20) == 0 {
				return it
			}
		}
	}
	return both(number, "", from, u.r.Intn(8))
}

// wayThere tells whether the way to an item's place is made of directories.
func wayThere(w *world.World, it api.Item) bool {
	_, e := w.Copy().Stat(it.To, it.Path)
	return e != api.ErrWorldWay
}

// other: a tree of which some value isn't what the volume has.
func (u author) other(x *tree.Tree) *tree.Tree {
	if x == nil {
		return x
	}
	for q, v := range x.All() {
		if u.r.Intn(6) > 0 {
			continue
		}
		switch {
		case v.Kind == api.Dir:
			v.Mode = u.one(v.Mode, 1, 8)
		case v.Kind == api.Link:
			v.Size, v.Sum = len("z"), plainDigest("z")
		case u.r.Intn(3) == 0:
			v.Mode = u.one(1, 8)
		case u.r.Intn(2) == 0:
			v.Size = max(v.Size+u.one(-513, -1, 1, 512), 0)
		default:
			v.Sum[5]++
		}
		if y, e := x.Set(q, v, [2]api.Mark{}); e == api.OK {
			return y
		}
	}
	return x
}

// begin begins an item in a pair, whose trees are mostly what the world has.
func (u author) begin(t testing.TB, p *pair, number int) api.Item {
	it := u.item(p.w, number)
	src, dst := scanned(t, p.w, it.From, it.Path), scanned(t, p.w, it.To, it.Path)
	if u.r.Intn(6) == 0 {
		src = u.other(src)
	}
	if u.r.Intn(10) == 0 {
		dst = u.other(dst)
	}
	p.begin(it, src, dst)
	return it
}

// path: one at which something stands, one in a directory, or any.
func (u author) path(w *world.World, v int) string {
	l := w.Image(v)
	p := l[u.r.Intn(len(l))].Path
	switch n := u.r.Intn(4); {
	case n == 0 || p == "":
		return u.name()
	case n == 1:
		return joined(p, u.name())
	}
	return p
}

// edit: what a user does, half of the time at a place or below it; some edits are refused.
func (u author) edit(w *world.World, v int, at string) api.Edit {
	e := api.Edit{
		Kind: u.one(api.EditMkdir, api.EditFile, api.EditLink, api.EditWrite, api.EditWrite, api.EditAppend, api.EditChmod, api.EditRename, api.EditExchange, api.EditRemove, api.EditSync, api.EditSettle),
		Path: u.path(w, v), To: u.path(w, v), Mode: u.r.Intn(8), Data: []byte(u.data()),
	}
	if u.r.Intn(2) == 0 {
		var l []string
		for _, x := range w.Image(v) {
			if lies(x.Path, at) {
				l = append(l, x.Path, x.Path, joined(x.Path, u.name()))
			}
		}
		e.Path = u.of(append(l, at)...)
	}
	if e.Kind == api.EditWrite && u.r.Intn(2) == 0 { // as long as it was
		for _, x := range w.Image(v) {
			if x.Path == e.Path {
				e.Data = []byte(strings.Repeat(u.of("p", "q"), len(x.Data)))
			}
		}
	}
	return e
}

// busy: what somebody else does in a staging place.
func (u author) busy(w *world.World, v int) func(w *world.World) {
	p, q := ".twine/1", ".twine/2"
	var l []string
	for _, x := range w.Image(v) {
		if lies(x.Path, ".twine") {
			l = append(l, x.Path)
		}
	}
	if len(l) > 0 {
		p = l[u.r.Intn(len(l))]
	}
	switch u.r.Intn(8) {
	case 0:
		return func(w *world.World) { w.Create(v, ".twine/1") }
	case 7:
		return func(w *world.World) { w.Remove(v, p) }
	case 1:
		return func(w *world.World) { w.Rename(v, p, q) }
	case 2:
		return func(w *world.World) { w.Append(v, p, []byte("others")) }
	case 3:
		return func(w *world.World) { w.Remove(v, p); w.Mkdir(v, p) }
	case 4:
		return func(w *world.World) { w.Mkdir(v, p+"/"+q[:1]) }
	case 5:
		return func(w *world.World) { w.Remove(v, p); w.Create(v, p) }
	}
	return func(w *world.World) { w.SyncVolume(v) }
}

// deed: something that is done between steps, to each world that it is handed; whether that may touch a staging path.
func (u author) deed(w *world.World, it api.Item) (do func(w *world.World), staging bool) {
	switch n := u.r.Intn(24); {
	case n < 9:
		v := u.one(it.From, it.To)
		e := u.edit(w, v, it.Path)
		return func(w *world.World) { w.Edit(v, e) }, false
	case n < 14:
		return (*world.World).Tick, false
	case n < 18:
		v, after, calls, part, reading := u.one(it.From, it.To, it.To), u.r.Intn(9), u.r.Intn(3), u.r.Intn(700), u.r.Intn(2) == 0
		return func(w *world.World) { w.Rig(v, after, calls, part, reading) }, false
	case n < 20:
		names, keep := u.r.Intn(12), []int{u.r.Intn(700), u.r.Intn(3), 9999}
		return func(w *world.World) { w.Fall([3]int{names, names, names}, [3][]int{keep, keep, keep}) }, true
	}
	return u.busy(w, it.To), true
}

// tally: how often steps told what; errors by themselves.
type tally map[string]int

func (c tally) add(did int, e api.Errno) { c[fmt.Sprint(didName(did), " ", int(e))]++ }

func (c tally) atLeast(t *testing.T, n int, did string, l ...api.Errno) {
	t.Helper()
	for _, e := range l {
		if got := c[fmt.Sprint(did, " ", int(e))]; got < n {
			t.Errorf("but %d steps told %s, %d", got, did, int(e))
		}
	}
}

// One item, whatever happens between its steps.
func TestP17_3Scripts(t *testing.T) {
	c, hows := tally{}, map[int]int{}
	for seed := range 1800 {
		u := author{rand.New(rand.NewSource(int64(seed)))}
		p := paired(u.world(t))
		it := u.begin(t, p, 1)
		guard := guarded(p, it)
		for i := 0; ; i++ {
			what := fmt.Sprintf("script %d, step %d", seed, i)
			for u.r.Intn(3) == 0 {
				do, staging := u.deed(p.w, it)
				p.each(do)
				guard.touched = guard.touched || staging
			}
			if u.r.Intn(60) == 0 {
				p.leave(0)
			}
			guard.ahead(t, p.w)
			did, e := p.step(t, what, 0)
			p.near(t, what)
			guard.behind(t, what, p.w, did)
			c.add(did, e)
			if did == api.DidNothing {
				break
			}
		}
		hows[p.items[0].Done().How]++
		if seed%16 == 0 {
			p.alike(t, fmt.Sprint("script ", seed))
		}
	}
	c.atLeast(t, 1000, "look", api.OK)
	c.atLeast(t, 1000, "stage", api.OK)
	c.atLeast(t, 500, "put", api.OK)
	c.atLeast(t, 300, "away", api.OK)
	c.atLeast(t, 100, "overtaken", api.OK)
	c.atLeast(t, 1, "failed", api.ErrWorldFault, api.ErrWorldWay, api.ErrWorldNone, api.ErrWorldTwice, api.ErrWorldFull, api.ErrWorldMode)
	c.atLeast(t, 1, "away", api.ErrWorldFault, api.ErrWorldWay, api.ErrWorldNone, api.ErrWorldRest)
	for how := api.HowPut; how <= api.HowLeft; how++ {
		if hows[how] < 20 {
			t.Errorf("but %d items ended by %d", hows[how], how)
		}
	}
}

// Several items beside one another over one world: each does its own calls and tells of them alone.
func TestP17_3ScriptsOfSeveral(t *testing.T) {
	for seed := range 250 {
		u := author{rand.New(rand.NewSource(int64(seed)))}
		p := paired(u.world(t))
		var items []api.Item
		for k := range 2 + u.r.Intn(3) {
			items = append(items, u.begin(t, p, u.one(1+k, 1+k, 1+k, 1)))
		}
		for i := range 60 {
			what := fmt.Sprintf("script %d, step %d", seed, i)
			if u.r.Intn(12) == 0 {
				do, _ := u.deed(p.w, items[u.r.Intn(len(items))])
				p.each(do)
			}
			k := u.r.Intn(len(p.items))
			if u.r.Intn(40) == 0 {
				p.leave(k)
			}
			p.step(t, what, k)
			for k := range p.items {
				p.tells(t, what, k)
			}
			p.near(t, what)
		}
		if seed%16 == 0 {
			p.alike(t, fmt.Sprint("script ", seed))
		}
	}
}

// orders gives each order of so many steps of one item, and so many of another.
func orders(one, other int, f func(order []int)) {
	var from func(order []int, left [2]int)
	from = func(order []int, left [2]int) {
		if left == [2]int{} {
			f(order)
			return
		}
		for i := range left {
			if left[i] > 0 {
				rest := left
				rest[i]--
				from(append(order, i), rest)
			}
		}
	}
	from(make([]int, 0, one+other), [2]int{one, other})
}

// Two items in every order of their steps: at two places, at one, there and back, one below the other.
func TestP17_3TwoInEveryOrder(t *testing.T) {
	d, e := []api.Thing{dirOf("", 5), fileOf("f", 6, "abc")}, []api.Thing{dirOf("", 4), linkOf("l", "to")}
	for _, c := range []struct {
		what  string
		items [2]api.Item
		ended string // how both end, if that is the same in every order
	}{
		{"at two places", [2]api.Item{carry(1, "x", api.A), carry(2, "y", api.A)}, "1 1"},
		{"at one place", [2]api.Item{carry(1, "x", api.A), carry(2, "x", api.A)}, ""},
		{"at one place, by one staging path", [2]api.Item{carry(1, "x", api.A), carry(1, "x", api.A)}, ""},
		{"there and back", [2]api.Item{carry(1, "x", api.A), carry(2, "y", api.B)}, "1 1"},
		{"there and back at one place", [2]api.Item{carry(1, "x", api.A), carry(1, "x", api.B)}, ""},
		{"one below the other", [2]api.Item{carry(1, "x", api.A), carry(2, "x/l", api.A)}, ""},
		{"a mode and what is below", [2]api.Item{both(1, "x", api.A, 3), carry(2, "x/l", api.A)}, "1 1"},
	} {
		ends := map[string]int{}
		n := [2]int{6, 6}
		if c.items[0].What == api.Both {
			n[0] = 1
		}
		orders(n[0], n[1], func(order []int) {
			w := worldOf(t, api.Caps{}, append(laid("x", d, 1), laid("y", d, 50)...), append(laid("x", e, 100), laid("y", e, 150)...))
			p := paired(w)
			for _, it := range c.items {
				p.begin(it, scanned(t, w, it.From, it.Path), scanned(t, w, it.To, it.Path))
			}
			for _, i := range order {
				p.step(t, fmt.Sprint(c.what, " ", order), i)
			}
			p.near(t, fmt.Sprint(c.what, " ", order))
			ends[fmt.Sprint(p.items[0].Done().How, p.items[1].Done().How)]++
		})
		if c.ended != "" {
			want(t, c.what+": ends", fmt.Sprint(len(ends), ends[c.ended] > 0), "1 true")
		} else if len(ends) < 2 {
			t.Errorf("%s: but ends %v", c.what, ends)
		}
	}
}
