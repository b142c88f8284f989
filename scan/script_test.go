package scan

import (
	"fmt"
	"math/rand"
	"strings"
	"testing"

	"twine/api"
	"twine/rules"
	"twine/tree"
	"twine/world"
)

// This file: scans during which users edit, calls fail, the clock ticks and the power falls, by chance, each held against the plain one.

// author: who makes up volumes and what is done to them.
type author struct{ r *rand.Rand }

func (u author) of(l ...string) string { return l[u.r.Intn(len(l))] }

func (u author) name() string {
	return u.of("a", "b", "a.b", "a", "b", "x.o", ".twine", "d", "e", "\xff", "longer name")
}

func (u author) data() []byte {
	sizes := []int{0, 1, 2, 40, 511, 512, 513, 600, 1024, 1025, 1300, 1537}
	size := sizes[u.r.Intn(len(sizes))]
	if u.r.Intn(2) == 0 {
		return []byte(text(size + 7)[7:])
	}
	return []byte(strings.Repeat(u.of("p", "q", "r"), size))
}

// things: of a volume; numbers from a first one on.
func (u author) things(number, clock int) []api.Thing {
	dirs := []string{""}
	var l []api.Thing
	taken := map[string]bool{}
	for range u.r.Intn(12) {
		p := below(dirs[u.r.Intn(len(dirs))], u.name())
		if taken[p] || strings.Count(p, "/") > 4 {
			continue
		}
		taken[p] = true
		number++
		stamp := 1 + u.r.Intn(clock)
		switch u.r.Intn(5) {
		case 0, 1:
			l = append(l, dirAt(p, u.r.Intn(8), number, stamp))
			dirs = append(dirs, p)
		case 2:
			l = append(l, linkAt(p, u.of("x", "../y", strings.Repeat("t", 4095)), number, stamp))
		default:
			x := fileAt(p, u.r.Intn(8), string(u.data()), number, stamp)
			x.Sure = u.r.Intn(len(x.Data) + 1)
			l = append(l, x)
		}
	}
	return l
}

func (u author) world(t *testing.T) *world.World {
	clock := 1 + u.r.Intn(4)
	w, e := world.New(api.Caps{}, clock, [3][]api.Thing{u.things(0, clock), u.things(100, clock), u.things(200, clock)})
	wantOK(t, "world.New", e)
	return w
}

func (u author) rules(t *testing.T) *rules.Rules {
	return ruled(t, u.of("", "", "skip *.o", "skip a", "skip /a", "skip a/b", "skip .twine", "skip *", "skip **/b", "skip d/**", "skip a/x.o\nskip b/x.o", "skip e\nprefer b *"))
}

// path: one at which something stands, one in a directory, or any.
func (u author) path(w *world.World, v int) string {
	l := w.Image(v)
	p := l[u.r.Intn(len(l))].Path
	switch n := u.r.Intn(4); {
	case n == 0 || p == "":
		return u.name()
	case n == 1:
		return below(p, u.name())
	}
	return p
}

// edit: what a user does; some edits are refused.
func (u author) edit(w *world.World, v int) api.Edit {
	kinds := []int{api.EditMkdir, api.EditFile, api.EditLink, api.EditWrite, api.EditWrite, api.EditAppend, api.EditAppend, api.EditChmod, api.EditRename, api.EditRename, api.EditExchange, api.EditRemove, api.EditRemove, api.EditSync, api.EditSettle}
	e := api.Edit{Kind: kinds[u.r.Intn(len(kinds))], Path: u.path(w, v), To: u.path(w, v), Mode: u.r.Intn(8)}
	switch e.Kind {
	case api.EditFile, api.EditWrite, api.EditAppend:
		e.Data = u.data()
		if x, ok := found(w, v, e.Path); ok && e.Kind == api.EditWrite && u.r.Intn(2) == 0 {
			e.Data = []byte(strings.Repeat(u.of("p", "q"), len(x.Data))) // as long as it was
		}
	}
	return e
}

// old: an archive's tree: the first, what scans noted of this world, or that with marks that aren't right.
func (u author) old(t *testing.T, w *world.World, v int) *tree.Tree {
	if u.r.Intn(3) == 0 {
		return first(t)
	}
	s := New(w.Copy(), []int{v, u.r.Intn(3)}[u.r.Intn(2)], ruled(t, ""), first(t))
	toEnd(t, s)
	x := s.Tree()
	for p, value := range s.Tree().All() {
		if value.Kind != api.File || u.r.Intn(3) > 0 {
			continue
		}
		sub, _ := x.Sub(p)
		marks := sub.Marks()
		switch u.r.Intn(6) {
		case 0:
			marks[0], marks[1] = marks[1], marks[0]
		case 1:
			marks = [2]api.Mark{}
		case 2:
			y, _ := found(w, v, p)
			m := api.Mark{Number: y.Number, Stamp: y.Stamp}
			marks = [2]api.Mark{m, m}
		case 3:
			value.Mode = u.r.Intn(9)
		case 4:
			value.Size = u.r.Intn(3)
		case 5:
			value.Sum = wrongSum
		}
		if y, e := x.Set(p, value, marks); e == api.OK {
			x = y
		}
	}
	return x
}

// deed: something that is done to a world between steps; the same is done to each one that it is handed.
func (u author) deed(w *world.World, v int, at string) func(w *world.World) {
	switch n := u.r.Intn(20); {
	case n < 12:
		e := u.edit(w, v)
		if at != "" && u.r.Intn(2) == 0 {
			e.Path = at
		}
		return func(w *world.World) { w.Edit(v, e) }
	case n < 14:
		return (*world.World).Tick
	case n < 17:
		after, calls := u.r.Intn(6), u.r.Intn(4)
		return func(w *world.World) { w.Rig(v, after, calls, 0, true) }
	case n == 17:
		names, keep := u.r.Intn(4), []int{u.r.Intn(700), u.r.Intn(3)}
		return func(w *world.World) { w.Fall([3]int{names, names, names}, [3][]int{keep, keep, keep}) }
	case n == 18:
		return func(w *world.World) { w.Mkdir(v, ".twine") }
	}
	p := u.path(w, v)
	return func(w *world.World) { w.Remove(v, p) }
}

// A scan by Steps and one by Runs, with a plain one beside them: all three tell the same behind each part of the script, and leave their worlds the same.
func TestP12_5Scripts(t *testing.T) {
	quick, lost, steps := 0, 0, 0
	for seed := range 800 {
		u := author{rand.New(rand.NewSource(int64(seed)))}
		w := u.world(t)
		v := []int{0, 0, 0, 1, 1, 2}[u.r.Intn(6)]
		r, o := u.rules(t), u.old(t, w, v)
		x, y := w.Copy(), w.Copy()
		s, run, model := New(w, v, r, o), New(x, v, r, o), newPlain(y, v, r, o)
		for i := 0; ; i++ {
			what := fmt.Sprintf("script %d, part %d", seed, i)
			if u.r.Intn(3) > 0 {
				at, _ := model.next()
				do := u.deed(w, v, at)
				do(w)
				do(x)
				do(y)
			}
			n, done := 1+u.r.Intn(3)*u.r.Intn(3), 0
			for range n {
				ok := model.step()
				want(t, what+": a Step", s.Step(), ok)
				if ok {
					done++
				}
			}
			want(t, what+": a Run", run.Run(NewCancel(n), u.r.Intn(11)-1), done)
			held(t, what+", by Steps", s, w, model)
			held(t, what+", by Runs", run, x, model)
			steps += done
			if done < n {
				break
			}
		}
		lost += len(model.lost)
		for _, x := range model.told {
			if x.quick {
				quick++
			}
		}
	}
	if quick < 80 || lost < 150 || steps < 2500 {
		t.Errorf("but %d quick files, %d lost paths, %d steps", quick, lost, steps)
	}
}

// Two scans of one world beside one another, of one volume and of two: neither is seen by the other one, but for the rigs.
func TestP12_5TwoScans(t *testing.T) {
	for seed := range 150 {
		u := author{rand.New(rand.NewSource(int64(seed)))}
		w := u.world(t)
		c := w.Copy()
		var scans []*Scan
		var models []*plain
		for range 2 {
			v, r := u.r.Intn(2), u.rules(t)
			o := u.old(t, w, v)
			scans, models = append(scans, New(w, v, r, o)), append(models, newPlain(c, v, r, o))
		}
		for i, ended := 0, 0; ended < 2; i++ {
			if u.r.Intn(3) == 0 {
				do := u.deed(w, u.r.Intn(2), "")
				do(w)
				do(c)
			}
			k, done := u.r.Intn(2), 0
			n := u.r.Intn(4)
			for done < n && models[k].step() {
				done++
			}
			if n == 1 {
				want(t, "a step", scans[k].Step(), done == 1)
			} else {
				want(t, "a Run", scans[k].Run(NewCancel(n), 3), done)
			}
			ended = 0
			for k := range scans {
				held(t, fmt.Sprintf("script %d, part %d, scan %d", seed, i, k), scans[k], w, models[k])
				if _, more := models[k].next(); !more {
					ended++
				}
			}
		}
	}
}
