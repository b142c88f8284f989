package stage

import (
	"fmt"
	"math/rand"
	"strings"
	"testing"

	"twine/api"
	"twine/tree"
	"twine/world"
)

// This file: stages during which users edit, others are busy at the place, calls fail, the clock ticks and the power falls, by chance, each held against the plain one.

// author: who makes up volumes and what is done to them.
type author struct{ r *rand.Rand }

func (u author) of(l ...string) string { return l[u.r.Intn(len(l))] }

func (u author) one(l ...int) int { return l[u.r.Intn(len(l))] }

func (u author) name() string {
	return u.of("a", "b", "a.b", "a!", "d", "e", "\xff", "longer name")
}

func (u author) data() string {
	size := u.one(0, 0, 1, 2, 40, 511, 512, 513, 600, 1024, 1025, 1300, 1537)
	if u.r.Intn(2) == 0 {
		return text(size + 7)[7:]
	}
	return strings.Repeat(u.of("p", "q", "r"), size)
}

func (u author) target() string {
	return u.of("x", "y", "../y", strings.Repeat("t", 600), strings.Repeat("t", 4095))
}

// things: of a volume; numbers from a first one on.
func (u author) things(number int) []api.Thing {
	dirs := []string{""}
	var l []api.Thing
	taken := map[string]bool{}
	for range 2 + u.r.Intn(14) {
		p := joined(dirs[u.r.Intn(len(dirs))], u.name())
		if taken[p] || strings.Count(p, "/") > 4 {
			continue
		}
		taken[p] = true
		number++
		switch u.r.Intn(5) {
		case 0, 1:
			l = append(l, dirAt(p, u.r.Intn(8), number))
			dirs = append(dirs, p)
		case 2:
			l = append(l, linkAt(p, u.target(), number))
		default:
			x := fileAt(p, u.r.Intn(8), u.data(), number)
			x.Sure = len(x.Data) - u.r.Intn(2)*u.r.Intn(len(x.Data)+1)
			l = append(l, x)
		}
	}
	return l
}

// world: with a staging place in A and in B, mostly; seldom with little room.
func (u author) world(t testing.TB) *world.World {
	things := [3][]api.Thing{u.things(0), u.things(100), u.things(200)}
	for v := range 2 {
		if u.r.Intn(12) > 0 {
			things[v] = append(things[v], dirAt(".twine", 7, 300+v))
		}
	}
	caps := api.Caps{}
	if u.r.Intn(6) == 0 {
		for v, l := range things {
			caps.Names[v] = len(l) + u.r.Intn(6) + 1
			caps.Bytes[v] = 1 + u.r.Intn(3000)
			for _, x := range l {
				if x.Kind == api.File {
					caps.Bytes[v] += len(x.Data)
				}
			}
		}
	}
	w, e := world.New(caps, 3, things)
	wantOK(t, "world.New", e)
	return w
}

// source: a path at which something stands, not far down.
func (u author) source(w *world.World, v int) string {
	l := w.Image(v)
	for {
		p := l[u.r.Intn(len(l))].Path
		if !lies(p, ".twine") && strings.Count(p, "/") < 2 {
			return p
		}
	}
}

// spoilt: a tree of which some value isn't what the source has.
func (u author) spoilt(x *tree.Tree) *tree.Tree {
	for q, v := range x.All() {
		if u.r.Intn(6) > 0 {
			continue
		}
		switch {
		case v.Kind == api.Dir:
			v.Mode = u.one(v.Mode, 1, 8)
		case v.Kind == api.Link:
			v.Size, v.Sum = len("z"), plainDigest("z")
		case u.r.Intn(3) == 0:
			v.Mode = u.one(1, 8, 8)
		case u.r.Intn(2) == 0:
			v.Size = max(v.Size+u.one(-513, -1, 1, 512), 0)
		default:
			v.Sum[5]++
		}
		if y, e := x.Set(q, v, [2]api.Mark{}); e == api.OK {
			return y
		}
	}
	return x
}

// path: one at which something stands, one in a directory, or any.
func (u author) path(w *world.World, v int) string {
	l := w.Image(v)
	p := l[u.r.Intn(len(l))].Path
	switch n := u.r.Intn(4); {
	case n == 0 || p == "":
		return u.name()
	case n == 1:
		return joined(p, u.name())
	}
	return p
}

// edit: what a user does, half of the time where the next step is; some edits are refused.
func (u author) edit(w *world.World, v int, at string) api.Edit {
	e := api.Edit{
		Kind: u.one(api.EditMkdir, api.EditFile, api.EditLink, api.EditWrite, api.EditWrite, api.EditAppend, api.EditAppend, api.EditChmod, api.EditRename, api.EditExchange, api.EditRemove, api.EditSync, api.EditSettle),
		Path: u.path(w, v), To: u.path(w, v), Mode: u.r.Intn(8), Data: []byte(u.data()),
	}
	if at != "" && u.r.Intn(2) == 0 {
		e.Path = at
	}
	if e.Kind == api.EditWrite && u.r.Intn(2) == 0 { // as long as it was
		for _, x := range w.Image(v) {
			if x.Path == e.Path {
				e.Data = []byte(strings.Repeat(u.of("p", "q"), len(x.Data)))
			}
		}
	}
	return e
}

// busy: what somebody else does in a staging place.
func (u author) busy(w *world.World, v int) func(w *world.World) {
	p, q := ".twine/1", ".twine/2"
	var l []string
	for _, x := range w.Image(v) {
		if lies(x.Path, ".twine") {
			l = append(l, x.Path)
		}
	}
	if len(l) > 0 {
		p = l[u.r.Intn(len(l))]
	}
	switch u.r.Intn(7) {
	case 0:
		return func(w *world.World) { w.Remove(v, p) }
	case 1:
		return func(w *world.World) { w.Rename(v, p, q) }
	case 2:
		return func(w *world.World) { w.Append(v, p, []byte("others")) }
	case 3:
		return func(w *world.World) { w.Remove(v, p); w.Mkdir(v, p) }
	case 4:
		return func(w *world.World) { w.Mkdir(v, p+"/"+q[:1]) }
	case 5:
		return func(w *world.World) { w.Remove(v, p); w.Create(v, p) }
	}
	return func(w *world.World) { w.SyncVolume(v) }
}

// deed: something that is done between steps, to each world that it is handed. next: the source's path.
func (u author) deed(w *world.World, from, to int, next string) func(w *world.World) {
	switch n := u.r.Intn(24); {
	case n < 12:
		v := u.one(from, from, from, to)
		e := u.edit(w, v, next)
		return func(w *world.World) { w.Edit(v, e) }
	case n < 15:
		return (*world.World).Tick
	case n < 19:
		v, after, calls, part, reading := u.one(from, to), u.r.Intn(9), u.r.Intn(3), u.r.Intn(700), u.r.Intn(2) == 0
		return func(w *world.World) { w.Rig(v, after, calls, part, reading) }
	case n < 21:
		names, keep := u.r.Intn(9), []int{u.r.Intn(700), u.r.Intn(3), 9999}
		return func(w *world.World) { w.Fall([3]int{names, names, names}, [3][]int{keep, keep, keep}) }
	}
	return u.busy(w, to)
}

// begin begins a stage in a pair: mostly from A to B or back, into the staging place.
func (u author) begin(t testing.TB, p *pair, number int) {
	from := u.one(0, 0, 1, 1, 2)
	to := u.one(1-min(from, 1), 1-min(from, 1), 1-min(from, 1), u.r.Intn(3))
	src := u.source(p.w, from)
	x := scanned(t, p.w, from, src)
	if u.r.Intn(4) == 0 {
		x = u.spoilt(x)
	}
	place := fmt.Sprint(".twine/", number)
	if u.r.Intn(8) == 0 {
		place = u.path(p.w, to)
	}
	p.begin(from, to, src, place, x)
}

// tally: how often steps told what; errors by themselves.
type tally map[string]int

func (c tally) add(did int, e api.Errno) { c[fmt.Sprint(did, " ", int(e))]++ }

func (c tally) atLeast(t *testing.T, n int, did int, l ...api.Errno) {
	t.Helper()
	for _, e := range l {
		if got := c[fmt.Sprint(did, " ", int(e))]; got < n {
			t.Errorf("but %d steps told %d, %d", got, did, int(e))
		}
	}
}

// One stage, whatever happens between its steps.
func TestP16_3Scripts(t *testing.T) {
	c := tally{}
	for seed := range 3000 {
		u := author{rand.New(rand.NewSource(int64(seed)))}
		p := paired(u.world(t))
		u.begin(t, p, 1)
		from, to := p.models[0].from, p.models[0].to
		for i := 0; ; i++ {
			what := fmt.Sprintf("script %d, step %d", seed, i)
			for u.r.Intn(5) < 2 {
				next, _ := p.models[0].next()
				do := u.deed(p.w, from, to, next)
				p.each(do)
			}
			did, e := p.step(t, what, 0)
			p.near(t, what)
			c.add(did, e)
			if did == api.DidNothing {
				break
			}
		}
		if seed%8 == 0 {
			p.alike(t, fmt.Sprint("script ", seed))
		}
	}
	c.atLeast(t, 5000, api.DidStage, api.OK)
	c.atLeast(t, 3000, api.DidNothing, api.OK)
	c.atLeast(t, 200, api.DidOvertaken, api.ErrStageOther)
	c.atLeast(t, 10, api.DidFailed, api.ErrWorldFault, api.ErrWorldWay, api.ErrWorldNone, api.ErrWorldTwice, api.ErrWorldFull, api.ErrWorldMode)
}

// Several stages beside one another over one world: each does its own calls and tells of them alone.
func TestP16_3ScriptsOfSeveral(t *testing.T) {
	for seed := range 400 {
		u := author{rand.New(rand.NewSource(int64(seed)))}
		p := paired(u.world(t))
		for k := range 2 + u.r.Intn(3) {
			u.begin(t, p, u.one(1+k, 1+k, 1))
		}
		for i := range 60 {
			what := fmt.Sprintf("script %d, step %d", seed, i)
			if u.r.Intn(9) == 0 {
				p.each(u.deed(p.w, u.r.Intn(2), u.r.Intn(2), ""))
			}
			k := u.r.Intn(len(p.stages))
			p.step(t, what, k)
			for k := range p.stages {
				p.tells(t, what, k)
			}
			p.near(t, what)
		}
		if seed%8 == 0 {
			p.alike(t, fmt.Sprint("script ", seed))
		}
	}
}

// orders gives each order of so many steps of one stage, and so many of another.
func orders(one, other int, f func(order []int)) {
	var from func(order []int, left [2]int)
	from = func(order []int, left [2]int) {
		if left == [2]int{} {
			f(order)
			return
		}
		for i := range left {
			if left[i] > 0 {
				rest := left
				rest[i]--
				from(append(order, i), rest)
			}
		}
	}
	from(make([]int, 0, one+other), [2]int{one, other})
}

// Two stages in every order of their steps: of one source to two places, to one place, there and back, and each of what the other one brings.
func TestP16_3TwoInEveryOrder(t *testing.T) {
	n := exampleTree()
	for _, c := range []struct {
		what       string
		from, to   [2]int
		src, place [2]string
	}{
		{what: "to two places", from: [2]int{0, 0}, to: [2]int{1, 1}, src: [2]string{"d", "d"}, place: [2]string{".twine/1", ".twine/2"}},
		{what: "to one place", from: [2]int{0, 0}, to: [2]int{1, 1}, src: [2]string{"d", "d"}, place: [2]string{".twine/1", ".twine/1"}},
		{what: "to two volumes", from: [2]int{0, 0}, to: [2]int{1, 2}, src: [2]string{"d", "d"}, place: [2]string{".twine/1", "x"}},
		{what: "of what the other one brings", from: [2]int{0, 1}, to: [2]int{1, 0}, src: [2]string{"d", ".twine/1"}, place: [2]string{".twine/1", "e"}},
	} {
		ends := tally{}
		orders(4, 4, func(order []int) {
			p := paired(exampled(t))
			for i := range 2 {
				p.begin(c.from[i], c.to[i], c.src[i], c.place[i], treeOf(t, n))
			}
			for _, i := range order {
				did, e := p.step(t, fmt.Sprint(c.what, " ", order), i)
				ends.add(did, e)
			}
			p.near(t, fmt.Sprint(c.what, " ", order))
		})
		switch c.what {
		case "to two places", "to two volumes":
			want(t, c.what+": steps that went well", ends["8 0"], 6*70)
		case "to one place": // who is second has failed
			want(t, c.what+": steps that failed", ends["11 95"] > 0, true)
		default:
			want(t, c.what+": some are overtaken", ends["7 160"] > 0, true)
		}
	}
}
