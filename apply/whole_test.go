package apply

import (
	"fmt"
	"math/rand"
	"testing"

	"twine/api"
	"twine/tree"
	"twine/world"
)

// guard: P17.7 and P17.9, looked at around each step.
type guard struct {
	it       api.Item
	src, dst *tree.Tree
	touched  bool // somebody else, or a fall, may have changed the staging path
	finds    bool // a look ahead of the step finds dst
	to, from string
	children string
	put      bool
}

func guarded(p *pair, it api.Item) *guard {
	return &guard{it: it, src: p.models[0].src, dst: p.models[0].dst}
}

// quietly: a copy of a world, none of whose calls is rigged.
func quietly(w *world.World) *world.World {
	c := w.Copy()
	for v := range 3 {
		c.Rig(v, 0, 0, 0, true)
		c.Rig(v, 0, 0, 0, false)
	}
	return c
}

func (g *guard) ahead(t testing.TB, w *world.World) {
	t.Helper()
	g.to, g.from = outside(w, g.it.To), image(w, g.it.From)
	c := quietly(w)
	if g.it.What == api.Both {
		s, e := c.Stat(g.it.To, g.it.Path)
		g.finds = e == api.OK && s.Kind == api.Dir && s.Mode == g.dst.Value().Mode
		g.children = g.kids(w)
		return
	}
	is, _ := looked(c, g.it.To, g.it.Path, raw(g.dst))
	g.finds = is == asWanted
}

// kids: what is below the place.
func (g *guard) kids(w *world.World) string {
	return imageOf(w, g.it.To, func(p string) bool { return p != g.it.Path && lies(p, g.it.Path) })
}

func (g *guard) behind(t testing.TB, what string, w *world.World, did int) {
	t.Helper()
	wantText(t, what+": the source's volume", image(w, g.it.From), g.from)
	if did != api.DidPut {
		wantText(t, what+": outside the staging place", outside(w, g.it.To), g.to)
		return
	}
	want(t, what+": put once", g.put, false)
	g.put = true
	want(t, what+": a look finds dst ahead of the put", g.finds, true)
	if g.it.What == api.Both {
		s, e := quietly(w).Stat(g.it.To, g.it.Path)
		want(t, what+": a directory of that mode", fmt.Sprint(e, s.Kind, s.Mode), fmt.Sprint(api.OK, api.Dir, g.it.Mode))
		wantText(t, what+": its children", g.kids(w), g.children)
		return
	}
	if !g.touched {
		is, _ := looked(quietly(w), g.it.To, g.it.Path, raw(g.src))
		want(t, what+": a look finds src behind the put", is, asWanted)
	}
}

// Users edit whatever they like, at every step; the staging path is nobody's: what is put is the source's scan, and over what was scanned.
func TestP17_7Edited(t *testing.T) {
	puts, moved := 0, 0
	for seed := range 1500 {
		u := author{rand.New(rand.NewSource(int64(seed)))}
		p := paired(u.roomy(t))
		it := u.begin(t, p, 1)
		g := guarded(p, it)
		for i := 0; ; i++ {
			what := fmt.Sprintf("script %d, step %d", seed, i)
			for u.r.Intn(4) == 0 {
				v := u.one(it.From, it.From, it.To)
				e := u.edit(p.w, v, it.Path)
				p.each(func(w *world.World) { w.Edit(v, e); w.Tick() })
			}
			g.ahead(t, p.w)
			did, _ := p.step(t, what, 0)
			g.behind(t, what, p.w, did)
			if did == api.DidPut {
				puts++
				if values(scanned(t, p.w, it.From, it.Path)) != values(g.src) {
					moved++
				}
			}
			if did == api.DidNothing {
				break
			}
		}
	}
	if puts < 500 || moved < 50 {
		t.Errorf("but %d puts, %d of them behind a change of the source", puts, moved)
	}
}

// A fall, or a fault, or somebody in the staging place: nothing is put over what wasn't scanned, and nothing but a put changes anything outside.
func TestP17_9Disturbed(t *testing.T) {
	hows := map[int]int{}
	for seed := range 1500 {
		u := author{rand.New(rand.NewSource(int64(seed + 5000)))}
		p := paired(u.world(t))
		it := u.begin(t, p, 1)
		g := guarded(p, it)
		for i := 0; ; i++ {
			what := fmt.Sprintf("script %d, step %d", seed, i)
			if u.r.Intn(4) == 0 {
				do, staging := u.deed(p.w, it)
				p.each(do)
				g.touched = g.touched || staging
			}
			if u.r.Intn(50) == 0 {
				before := images(p.w)
				p.leave(0)
				wantText(t, what+": Leave", images(p.w), before)
			}
			g.ahead(t, p.w)
			did, _ := p.step(t, what, 0)
			g.behind(t, what, p.w, did)
			if did == api.DidNothing {
				break
			}
		}
		how := p.items[0].Done().How
		hows[how]++
		want(t, fmt.Sprint("script ", seed, ": put"), g.put, how == api.HowPut)
	}
	for how := api.HowPut; how <= api.HowLeft; how++ {
		if hows[how] < 15 {
			t.Errorf("but %d items ended by %d", hows[how], how)
		}
	}
}

// Nobody else: each item of a Carry is put, within the bound, and nothing stands at the staging path at the end.
func TestP17_8Undisturbed(t *testing.T) {
	puts := 0
	for seed := range 1500 {
		u := author{rand.New(rand.NewSource(int64(seed)))}
		w := u.roomy(t)
		it := u.item(w, u.one(1, 2, 10, 999))
		if it.What == api.Both || !wayThere(w, it) {
			continue
		}
		src, dst := scanned(t, w, it.From, it.Path), scanned(t, w, it.To, it.Path)
		bound := 2 + stepsOf(w, it, src) + countOf(dst)
		a := New(w, it, src, dst)
		steps := 0
		for a.Phase() != api.DidNothing {
			if u.r.Intn(3) == 0 {
				w.Tick()
			}
			_, e := a.Step()
			want(t, fmt.Sprint("script ", seed, ": error"), e, api.OK)
			if steps++; steps > bound {
				t.Fatalf("script %d: more than %d steps", seed, bound)
			}
		}
		puts++
		want(t, fmt.Sprint("script ", seed, ": How"), a.Done().How, api.HowPut)
		want(t, fmt.Sprint("script ", seed, ": the staging place"), staging(w, it.To), "")
		wantText(t, fmt.Sprint("script ", seed, ": the place"), values(scanned(t, w, it.To, it.Path)), values(src))
	}
	if puts < 1000 {
		t.Errorf("but %d puts", puts)
	}
}

// The bound is come to: what goes over a directory takes as many steps behind the put as it has nodes.
func TestP17_8BoundIsMet(t *testing.T) {
	for _, stood := range sorts()[1:] {
		w := between(t, "x", sorts()[6].things, stood.things)
		it := carry(1, "x", api.A)
		src, dst := scanned(t, w, api.A, "x"), scanned(t, w, api.B, "x")
		bound := 2 + stepsOf(w, it, src) + countOf(dst)
		a := New(w, it, src, dst)
		for i := range bound {
			did, e := a.Step()
			want(t, fmt.Sprint(stood.what, ": step ", i, " does something"), did != api.DidNothing, true)
			want(t, fmt.Sprint(stood.what, ": step ", i), e, api.OK)
		}
		want(t, stood.what+": Phase", didName(a.Phase()), "nothing")
	}
}

// A fall between any two steps, all being sure at the beginning: the item goes on with what the fall left, and never puts over what it didn't find.
func TestP17_7FallBetween(t *testing.T) {
	few := []sort{sorts()[0], sorts()[1], sorts()[3], sorts()[5]}
	for _, comes := range few {
		for _, stood := range few {
			if comes.things == nil && stood.things == nil {
				continue
			}
			w := between(t, "x", comes.things, stood.things)
			for v := range 2 {
				wantOK(t, "EditSettle", w.Edit(v, api.Edit{Kind: api.EditSettle}))
			}
			it := carry(1, "x", api.A)
			for ahead := 0; ; ahead++ {
				more := false
				for names := range 12 {
					what := fmt.Sprintf("%s over %s, a fall behind %d steps, %d names", comes.what, stood.what, ahead, names)
					p := begun(t, w.Copy(), it)
					g := guarded(p, it)
					p.steps(t, what, ahead)
					g.put = p.items[0].Done().How == api.HowPut
					more = more || p.items[0].Phase() != api.DidNothing
					p.each(func(w *world.World) {
						w.Fall([3]int{names, names, names}, [3][]int{{0}, {0}, {0}})
					})
					g.touched = ahead > 1 // what nothing was done to, a fall leaves as it was
					for did := -1; did != api.DidNothing; {
						g.ahead(t, p.w)
						did, _ = p.step(t, what, 0)
						g.behind(t, what, p.w, did)
						p.near(t, what)
					}
					if t.Failed() {
						return
					}
				}
				if !more {
					break
				}
			}
		}
	}
}
