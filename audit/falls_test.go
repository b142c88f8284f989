package audit

import (
	"fmt"
	"maps"
	"math"
	"slices"
	"strings"
	"testing"

	"twine/api"
	"twine/rules"
	"twine/run"
	"twine/world"
)

// This file: P22.10, falls between any two steps of runs, held against what After tells of the contents ahead of them.

// fallen: a world and a run over it that is to fall.
type fallen struct {
	t       testing.TB
	what    string
	w       *world.World // as it is at Begin
	rules   *rules.Rules
	most    int
	seed    int  // what comes between the run's steps
	unquiet bool // calls fail, too, and the run is cancelled
	sure    bool // all of A and B is sure at Begin

	out   api.Outlook // what After tells of w
	err   api.Errno
	steps int    // of the run, without a fall
	saved []byte // the archive that it saves, if it does
	ended int    // how many further runs ended where After says
}

// ready asks After, and lets the run come to its end once, to know how many steps it has, and what it saves.
func ready(f fallen) *fallen {
	f.out, f.err = After(images(f.w), f.rules, f.most)
	way := f.upTo(math.MaxInt)
	f.steps, f.saved = way.steps, archiveBytes(way.w)
	return &f
}

// way: a run that did so many steps over a copy of its world.
type way struct {
	w      *world.World
	x      *run.Run
	steps  int
	loaded bool // the load is behind it
}

// upTo does so many steps of the run over a copy, or all, if there are fewer.
func (f *fallen) upTo(steps int) way {
	c := f.w.Copy()
	d := way{w: c, x: run.New(c, f.most)}
	mustWant(f.t, f.what+": Begin", d.x.Begin(f.rules), api.OK)
	u := authorOf(f.seed)
	loads := 0
	for d.steps < steps && d.x.Status().Phase != api.DidNothing {
		u.ticks(c)
		if f.unquiet {
			u.meddle(c, d.x)
		}
		if d.x.Do().Did == api.DidLoad {
			loads++
		}
		d.steps++
	}
	d.loaded = loads == 2
	return d
}

// meddle: now and then a call is to fail, or the run is cancelled.
func (u author) meddle(w *world.World, x *run.Run) {
	switch u.r.Intn(60) {
	case 0:
		x.Cancel()
	case 1, 2, 3:
		w.Rig(u.r.Intn(3), u.r.Intn(5), 1+u.r.Intn(2), u.r.Intn(9), u.rarely(2))
	}
}

// spots: what stands in a volume outside its staging place.
func spots(l []api.Thing) sketch {
	m := sketch{}
	for _, x := range l {
		if !isStaging(x.Path) {
			m[x.Path] = spot{x.Kind, x.Mode, string(x.Data)}
		}
	}
	return m
}

// planned: A's and B's values when all items of a plan are done.
func planned(p api.Plan, ahead [2]sketch) [2]sketch {
	now := [2]sketch{maps.Clone(ahead[0]), maps.Clone(ahead[1])}
	for _, it := range p.Items {
		if it.What == api.Both {
			now[it.To][it.Path] = spot{api.Dir, it.Mode, ""}
			continue
		}
		now[it.To].drop(it.Path)
		for q, s := range ahead[it.From] {
			if lies(q, it.Path) {
				now[it.To][q] = s
			}
		}
	}
	return now
}

// alone tells whether a fall alone makes s of what stands at p ahead of the run: after so many of the changes of names, with some of the bytes that aren't sure.
func (f *fallen) alone(v int, p string, s spot) bool {
	if f.sure {
		return false
	}
	for k := range 40 {
		n := [3]int{k, k, k}
		least, most := spots(f.w.After(n, [3][]int{}).Image(v)), spots(f.w.After(n, everything()).Image(v))
		x, y := least[p], most[p]
		if s.kind == y.kind && s.mode == y.mode && len(s.data) >= len(x.data) && strings.HasPrefix(y.data, s.data) {
			return true
		}
	}
	return false
}

func everything() [3][]int { return [3][]int{{math.MaxInt}, {math.MaxInt}, {math.MaxInt}} }

// values looks at each path of A and B: it holds what it held ahead of the run, or what the merge has there, or what the fall alone makes of the former.
func (f *fallen) values(what string, c *world.World, x *run.Run) {
	f.t.Helper()
	ahead := [2]sketch{spots(f.w.Image(api.A)), spots(f.w.Image(api.B))}
	_, p := x.Merge()
	merge := planned(p, ahead)
	for v := range 2 {
		now := spots(c.Image(v))
		paths := maps.Clone(now)
		maps.Copy(paths, ahead[v])
		maps.Copy(paths, merge[v])
		for q := range paths {
			if s := now[q]; s != ahead[v][q] && s != merge[v][q] && !f.alone(v, q, s) {
				f.t.Errorf("%s: volume %d has at %q %v, had %v, the merge %v", what, v, q, s, ahead[v][q], merge[v][q])
			}
		}
	}
}

// merged looks that the merge is the one that After tells, once it is known; of a run that was quiet.
func (f *fallen) merged(what string, x *run.Run) {
	m, p := x.Merge()
	if f.unquiet || len(m.Cells) == 0 {
		return
	}
	ahead := [2]sketch{spots(f.w.Image(api.A)), spots(f.w.Image(api.B))}
	for v, now := range planned(p, ahead) {
		maps.DeleteFunc(now, func(q string, _ spot) bool { return f.rules.Skip(q) })
		want(f.t, fmt.Sprint(what, ": the merge's volume ", v), toldTree(now.values().tree(f.t)), toldNode([2]api.Node{f.out.A, f.out.B}[v]))
	}
}

// archive looks that what stands at the archive's place is the old one or the one that the run was saving.
func (f *fallen) archive(what string, c *world.World) {
	f.t.Helper()
	old, now := archiveBytes(f.w), archiveBytes(c)
	if !slices.Equal(now, old) && !slices.Equal(now, f.saved) || now == nil && old != nil {
		f.t.Errorf("%s: the archive is neither the old one nor the new one", what)
	}
	if _, e := plainArchive(c.Image(api.S), api.MaxNodes); e != api.OK {
		f.t.Errorf("%s: the archive is refused: %d", what, e)
	}
}

// fall lets a world fall behind so many steps of the run, and looks at all that is promised of it; false: the load wasn't behind it.
func (f *fallen) fall(u author, steps int, names [3]int, keep [3][]int) bool {
	f.t.Helper()
	d := f.upTo(steps)
	if !d.loaded {
		return false
	}
	c, x := d.w, d.x
	what := fmt.Sprintf("%s, a fall behind %d steps, names %v, keep %v", f.what, steps, names, keep)
	m, p := x.Merge()
	f.merged(what, x)
	c.Fall(names, keep)
	f.archive(what, c)
	f.values(what, c, x)
	if f.err != api.OK { // the run was refused
		return true
	}
	ends := f.sure && !f.unquiet && (len(m.Cells) == 0 || len(p.Left) == 0)
	y := run.New(c, f.most)
	if u.rarely(2) {
		y = x
	}
	if foretold(f.t, what+", a further run", u, y, c, f.rules, f.most) && ends {
		as(f.t, what+", where a further run ends", c, f.rules, f.out)
		f.ended++
	}
	return true
}

// settle: all of A and B is sure.
func settle(w *world.World) {
	for v := range 2 {
		w.Edit(v, api.Edit{Kind: api.EditSettle})
	}
}

// begun: a world by chance, with or without a run behind it, and with edits that aren't sure; the archive, and what is left beside it, needn't be sure either.
func (u author) begun(t testing.TB) (*world.World, scene) {
	s := u.scene(t)
	for i := range s.vols[api.S] {
		s.vols[api.S][i].Sure = u.r.Intn(len(s.vols[api.S][i].Data) + 1)
	}
	if u.rarely(3) {
		s.vols[api.S] = slices.Concat(s.vols[api.S], things(310, u.of("archive.new:6=half~2 other:6=mine", "archive.new@7", "other:6=mine archive.new>to")))
	}
	w := worldOf(t, api.Caps{}, s)
	if u.rarely(2) {
		through(t, u, run.New(w, s.most), w, u.rules(t))
	}
	u.edits(w, u.r.Intn(7))
	return w, s
}

// survivors by chance.
func (u author) survivors() ([3]int, [3][]int) {
	var names [3]int
	var keep [3][]int
	for v := range 3 {
		names[v] = u.one(0, 0, u.r.Intn(6), u.r.Intn(25), u.r.Intn(50), math.MaxInt)
		for range u.r.Intn(4) {
			keep[v] = append(keep[v], u.one(0, 1, u.r.Intn(600), math.MaxInt))
		}
	}
	return names, keep
}

// falls: of worlds by chance, behind each step of a run; it tells how many further runs ended where After says of the contents ahead of the fallen one.
func falls(t *testing.T, worlds int, change func(u author, f *fallen)) int {
	t.Helper()
	t.Parallel()
	n, ended := 0, 0
	for seed := range worlds {
		u := authorOf(seed)
		w, s := u.begun(t)
		f := fallen{t: t, what: fmt.Sprint("world ", seed), w: w, rules: s.rules, most: s.most, seed: seed}
		change(u, &f)
		g := ready(f)
		for steps := range g.steps + 1 {
			names, keep := u.survivors()
			if g.fall(u, steps, names, keep) {
				n++
			}
		}
		ended += g.ended
	}
	if n < 20*worlds {
		t.Errorf("but %d falls", n)
	}
	return ended
}

// All of A and B was sure, and the run quiet up to the fall: a further run ends where After says.
func TestP22_10Sure(t *testing.T) {
	ended := falls(t, 130, func(_ author, f *fallen) {
		settle(f.w)
		f.sure = true
	})
	if ended < 2500 {
		t.Errorf("but %d further runs", ended)
	}
}

// Not all of A and B was sure: each value is one that stood there, or the merge's, or what the fall makes of the former.
func TestP22_10Unsure(t *testing.T) {
	falls(t, 80, func(author, *fallen) {})
}

// Calls fail, and the run may be cancelled.
func TestP22_10Unquiet(t *testing.T) {
	falls(t, 80, func(u author, f *fallen) {
		f.unquiet = true
		if u.rarely(2) {
			settle(f.w)
			f.sure = true
		}
	})
}

// Each choice of survivors, behind each step of a run that does something of each kind: names one by one, of each volume beside all and none of the others'.
func TestP22_10EveryChoice(t *testing.T) {
	t.Parallel()
	for i, c := range []struct{ a, b, o, rules string }{
		{"d@5 d/f:6*600 d/l>to e:6=1", "d@7 g:6=y", "d@7 g:6=x", ""},
		{"@5 f@7 f/g:6=x h:6=1", "@7 f:6=x k@7 k/x.o:6=1 k/f:6=x .twine@7 .twine/1:6=z", "@7 f:6=x h:6=1 k@7 k/f:6=x", "skip *.o"},
		{"a:6=1 .twine>x", "a:6=2 b@7 b/c@7 b/c/d:6=x", "", "prefer b a"},
	} {
		s := scene{archived(t, c.a, c.b, c.o), parsed(t, c.rules), 100}
		w := worldOf(t, api.Caps{}, s)
		g := ready(fallen{t: t, what: fmt.Sprint("world ", i), w: w, rules: s.rules, most: s.most, seed: i, sure: true})
		keeps := [][3][]int{{}, everything(), {{300, 0}, {0, 300}, {100}}}
		for steps := range g.steps + 1 {
			for v := range 3 {
				for n := range 14 {
					names := [3]int{[2]int{0, math.MaxInt}[n%2], [2]int{0, math.MaxInt}[steps%2], [2]int{math.MaxInt, 0}[n%2]}
					names[v] = n
					g.fall(authorOf(n), steps, names, keeps[(n+steps)%3])
				}
			}
		}
	}
}
