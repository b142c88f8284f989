package run

import (
	"fmt"
	"maps"
	"math/rand"
	"slices"
	"strings"
	"sync"
	"testing"

	"twine/api"
	"twine/rules"
	"twine/world"
)

// This file: the promises about the whole, and P19.9, by worlds and scripts by chance.

// log: all that an object tells and all that its world holds, under a script by chance.
func log(t testing.TB, w *world.World, most, seed int) string {
	u := authorOf(seed)
	x := New(w, most)
	var out strings.Builder
	for range 3 {
		for range u.r.Intn(4) {
			v := u.r.Intn(2)
			fmt.Fprintln(&out, w.Edit(v, u.edit(w, v)))
		}
		fmt.Fprintln(&out, x.Begin(u.rules(t)))
		often := u.one(4, 20)
		for x.Status().Phase != api.DidNothing {
			switch {
			case !u.rarely(often):
			case u.rarely(5):
				fmt.Fprintln(&out, x.Cancel())
			case u.rarely(4):
				w.Rig(u.r.Intn(3), u.r.Intn(5), 1, u.r.Intn(9), u.rarely(2))
			case u.rarely(8):
				w.Fall([3]int{u.r.Intn(9), u.r.Intn(9), u.r.Intn(4)}, [3][]int{{u.r.Intn(99)}, {3}, {1}})
			default:
				w.Tick()
				v := u.r.Intn(2)
				fmt.Fprintln(&out, w.Edit(v, u.edit(w, v)))
			}
			m, p := x.Merge()
			fmt.Fprintln(&out, toldReply(x.Do()), x.Status(), len(m.Cells), p)
		}
		fmt.Fprintln(&out, toldReport(x.Report()), toldWorld(w))
		for v := range 3 {
			fmt.Fprintln(&out, w.Image(v))
		}
	}
	return out.String()
}

// Two worlds that hold the same: made of things in another order, or of another one's pictures; alone, or beside others that are busy.
func TestP19_9Same(t *testing.T) {
	t.Parallel()
	for seed := range 60 {
		u := authorOf(seed)
		p := u.plot(t)
		l := [3][]api.Thing{u.laid(p.a, 11), u.laid(p.b, 101), p.s}
		var worlds []*world.World
		for i := range 3 {
			w, e := world.New(p.caps, 3, l)
			mustWant(t, "world.New", e, api.OK)
			if i == 2 {
				w, e = world.New(p.caps, w.Clock(), [3][]api.Thing{w.Image(0), w.Image(1), w.Image(2)})
				mustWant(t, "world.New", e, api.OK)
			}
			worlds = append(worlds, w)
			for v := range l {
				l[v] = slices.Clone(l[v])
				u.r.Shuffle(len(l[v]), func(i, j int) { l[v][i], l[v][j] = l[v][j], l[v][i] })
			}
		}
		alone := log(t, worlds[0].Copy(), p.most, seed)
		told := make([]string, len(worlds))
		var all sync.WaitGroup
		for i, w := range worlds {
			all.Add(1)
			go func() {
				defer all.Done()
				told[i] = log(t, w, p.most, seed)
			}()
		}
		all.Wait()
		for i := range told {
			if told[i] != alone {
				t.Errorf("script %d: world %d", seed, i)
			}
		}
	}
}

// P22.9 by chance: worlds, rules, rigs, little room.
func TestP22_9Scripts(t *testing.T) {
	t.Parallel()
	told := map[string]int{}
	for seed := range 700 {
		u := authorOf(seed)
		p := u.plot(t)
		if u.rarely(3) {
			u.crowded(&p)
		}
		q := paired(t, p.world(t, u), p.most).counted()
		for i := range 2 {
			q.what = fmt.Sprint("script ", seed, ", run ", i)
			if u.rarely(4) {
				q.forget()
			}
			q.beginBy(u.rules(t))
			for q.x.Status().Phase != api.DidNothing {
				if u.rarely(6) {
					q.rig(u.r.Intn(3), u.r.Intn(6), 1+u.r.Intn(3), u.r.Intn(600), u.rarely(2))
				}
				if u.rarely(9) {
					q.tick()
				}
				q.do()
			}
			q.heldOut()
		}
		for x, n := range q.told {
			told[x] += n
		}
	}
	for _, x := range []string{"failed 92", "failed 99", "fault 92", "fault 99", "sure 92", "away 92", "end", "put"} {
		if told[x] < 3 {
			t.Errorf("but %d times %s", told[x], x)
		}
	}
}

// P22.11 by chance: files whose bytes aren't sure, users who edit between the steps; and falls behind what was made sure.
func TestP22_11Scripts(t *testing.T) {
	t.Parallel()
	files, ends := 0, 0
	for seed := range 500 {
		u := authorOf(seed)
		p := u.plot(t)
		q := paired(t, p.world(t, u), p.most).counted()
		for i := range 3 {
			q.what = fmt.Sprint("script ", seed, ", run ", i)
			for range u.r.Intn(4) {
				v := u.r.Intn(2)
				q.tryEdit(v, u.edit(q.w, v))
			}
			q.beginBy(u.rules(t))
			for q.x.Status().Phase != api.DidNothing {
				if u.rarely(12) {
					v := u.r.Intn(2)
					q.tryEdit(v, u.edit(q.w, v))
				}
				if u.rarely(12) {
					q.tick()
				}
				q.do() // looks at P22.11 at the right moment
			}
			if q.plain.settled {
				files += len(q.settledFiles(q.plain.hows()))
				ends++
			}
			if u.rarely(4) {
				q.fall([3]int{u.r.Intn(5), u.r.Intn(5), u.r.Intn(3)}, [3][]int{{u.r.Intn(9)}, {u.r.Intn(9)}, {9}})
			}
		}
	}
	if files < 1000 || ends < 1000 {
		t.Errorf("but %d files of %d runs", files, ends)
	}
}

// P22.11 plainly: at the beginning nothing is sure but names; when the save begins, all that was agreed or carried is.
func TestP22_11Plain(t *testing.T) {
	q := paired(t, unsureWorld(t), 100).counted()
	want(t, "at the beginning", pictured(q.w.After([3]int{}, [3][]int{}), api.A, false).told(), "@7 b:6= c:6= d@7 d/e:6= f:6= h:6= j:6=")
	q.begin("skip j")
	q.until(api.DidSave)
	fallen := q.w.After([3]int{}, [3][]int{})
	want(t, "A", pictured(fallen, api.A, false).told(), "@7 b:6=1 c:6=2 d@7 d/e:6=3 f:6=4 g:6=5 h:6= j:6=")
	want(t, "B", pictured(fallen, api.B, false).told(), "@7 b:6=1 c:6=2 d@7 d/e:6=3 f:6=4 g:6=5 h:6=")
}

// P22.12 where users do what they can to keep a run busy: before each step something more stands ahead of it.
func TestP22_12Busy(t *testing.T) {
	t.Parallel()
	for seed := range 60 {
		u := authorOf(seed)
		p := u.plot(t)
		q := paired(t, p.world(t, u), api.MaxNodes).counted()
		q.what = fmt.Sprint("script ", seed)
		q.begin("")
		for i := 0; q.x.Status().Phase != api.DidNothing; i++ {
			v := u.r.Intn(2)
			if i < 150 {
				q.tryEdit(v, newDir("zz"+strings.Repeat("/zz", i%40)))
				q.tryEdit(v, newFile(fmt.Sprint("zz/f", i), text(1100)))
				q.tryEdit(v, appendTo(u.path(q.w, v), text(600)))
			}
			q.do()
		}
		want(t, q.what, q.x.Report().Over, api.OverEnd)
	}
}

// P22.12 by counted steps: what each part takes at most, one by one.
func TestP22_12Counted(t *testing.T) {
	for _, c := range []struct {
		what, a, b, o string
		steps         int
	}{
		{"nothing", ".twine@7", ".twine@7", "", 14},
		{"staging places", ".twine@7 .twine/1:6=x .twine/2:6=y", ".twine:6=x", "", 14 + 4},
		{"agreed", ".twine@7 f:6*1024", ".twine@7 f:6*1024", "", 14 + 4 + 2},
		{"carried", ".twine@7 f:6*1024", ".twine@7", "", 14 + 2 + 1 + 2 + 1 + 2},
		{"gone", ".twine@7 d@7 d/e@7 d/f:6=x", ".twine@7", "d@7 d/e@7 d/f:6=x", 14 + 3 + 2 + 3},
	} {
		var q *pair
		if c.o == "" {
			q = paired(t, worldOf(t, c.a, c.b, ""), 100).counted()
		} else {
			q = paired(t, archived(t, c.a, c.b, c.o), 100).counted()
		}
		q.what = c.what
		q.begin("")
		q.ends()
		want(t, c.what, q.steps, c.steps)
	}
}

// P22.14: with A and B exchanged in everything, everything comes out exchanged.
func TestP22_14Mirror(t *testing.T) {
	t.Parallel()
	runs := 0
	for seed := range 500 {
		u := authorOf(seed)
		p := u.plot(t)
		a, b := u.laid(p.a, 11), u.laid(p.b, 101)
		caps := api.Caps{Bytes: [3]int{1 << 20, 1 << 21}, Names: [3]int{500, 600}}
		w, e := world.New(caps, 3, [3][]api.Thing{a, b, p.s})
		mustWant(t, "world.New", e, api.OK)
		caps.Bytes[0], caps.Bytes[1], caps.Names[0], caps.Names[1] = caps.Bytes[1], caps.Bytes[0], caps.Names[1], caps.Names[0]
		m, e := world.New(caps, 3, [3][]api.Thing{b, a, p.s})
		mustWant(t, "world.New", e, api.OK)
		x, y := New(w, p.most), New(m, p.most)
		for i := range 3 {
			what := fmt.Sprint("script ", seed, ", run ", i)
			r := u.rules(t)
			runThrough(t, u, x, w, r)
			runThrough(t, u, y, m, r.Mirror())
			if !mirrored(t, what, x, y, w, m) {
				break
			}
			runs++
			for range u.r.Intn(5) {
				v := u.r.Intn(2)
				edit := u.edit(w, v)
				want(t, what+": edit", m.Edit(1-v, edit), w.Edit(v, edit))
			}
		}
	}
	if runs < 800 {
		t.Errorf("but %d runs", runs)
	}
}

// runThrough: a quiet run; a tick may come.
func runThrough(t testing.TB, u author, x *Run, w *world.World, r *rules.Rules) {
	t.Helper()
	mustWant(t, "Begin", x.Begin(r), api.OK)
	for x.Status().Phase != api.DidNothing {
		if u.rarely(20) {
			w.Tick()
		}
		x.Do()
	}
}

// mirrored looks at two runs' ends; false: they didn't fit.
func mirrored(t testing.TB, what string, x, y *Run, w, m *world.World) bool {
	t.Helper()
	_, p := x.Merge()
	_, o := y.Merge()
	if x.Report().Over != api.OverEnd || len(p.Left) > 0 {
		want(t, what+": the other one doesn't fit either", y.Report().Over != api.OverEnd || len(o.Left) > 0, true)
		return false
	}
	for v := range 2 {
		want(t, what+": values", pictured(m, 1-v, false).told(), pictured(w, v, false).told())
	}
	r := x.Report()
	for i := range r.Entries {
		if r.Entries[i].Side != 0 {
			r.Entries[i].Side = api.SideA + api.SideB - r.Entries[i].Side
		}
	}
	want(t, what+": report", toldReport(y.Report()), toldReport(r))
	one, other := unmarked(t, archiveOf(w)), unmarked(t, archiveOf(m))
	want(t, what+": archive", string(encoded(t, other, 3)), string(encoded(t, one, 3)))
	want(t, what+": need", p.Need, [2]api.Room{o.Need[1], o.Need[0]})
	return true
}

// listed: every error that a step may tell.
func listed(e api.Errno) bool {
	return slices.Contains([]api.Errno{
		api.OK, api.ErrRunNone, api.ErrRunMost, api.ErrStoreKind,
		api.ErrCodecMark, api.ErrCodecVersion, api.ErrCodecSum, api.ErrCodecForm, api.ErrCodecBounds, api.ErrCodecHash,
		api.ErrWorldFault, api.ErrWorldFull, api.ErrWorldOther, api.ErrWorldRest, api.ErrWorldKind, api.ErrWorldNone, api.ErrWorldWay, api.ErrWorldTwice, api.ErrWorldDeep,
	}, e)
}

// P22.15: any text as rules, any contents of the volumes, any script: each call answers, a run ends, what isn't right is told by a listed error, and nothing else is changed.
func TestP22_15Scripts(t *testing.T) {
	t.Parallel()
	texts := 0
	for seed := range 400 {
		u := authorOf(seed)
		p := u.plot(t)
		u.odd(t, &p)
		p.most = u.one(-5, 0, 1, 2, 5, 9, 100, 1<<40)
		if u.rarely(3) {
			u.crowded(&p)
		}
		strew(u, p.a)
		strew(u, p.b)
		p.caps = loosened(p)
		q := paired(t, p.world(t, u), p.most).counted()
		q.strange = true
		for i := range 3 {
			q.what = fmt.Sprint("script ", seed, ", run ", i)
			text := u.text()
			r, _, e := rules.Parse(text)
			if e != api.OK {
				if e < api.ErrRulesLong || e > api.ErrRulesPattern {
					t.Errorf("%q: %d", text, e)
				}
				r = u.rules(t)
			} else {
				texts++
			}
			let := letBe(q, r)
			q.beginBy(r)
			for q.x.Status().Phase != api.DidNothing {
				if u.rarely(15) {
					u.meddle(q)
					let = letBe(q, r)
				}
				if reply := q.do(); !listed(reply.Err) {
					t.Errorf("%s: %s", q.what, toldReply(reply))
				}
				if now := letBe(q, r); !maps.Equal(now, let) {
					t.Fatalf("%s: let be: %v, was %v", q.what, now, let)
				}
			}
			if u.rarely(4) {
				q.forget()
			}
		}
	}
	if texts < 200 {
		t.Errorf("but %d texts were rules", texts)
	}
}

// letBe: what the rules let be, on both sides, numbers and stamps too.
func letBe(q *pair, r *rules.Rules) map[string]string {
	m := map[string]string{}
	for v := range 2 {
		for _, x := range q.w.Image(v) {
			if r.Skip(x.Path) && !isStaging(x.Path) {
				m[fmt.Sprint(v, x.Path)] = fmt.Sprint(x)
			}
		}
	}
	return m
}

// strew puts odd names and deep paths into a picture.
func strew(u author, m picture) {
	for range u.r.Intn(3) {
		m[joined(u.of(m.dirs()...), u.of("...", " ", "\x01", strings.Repeat("n", 255), ".twin", "archive", "archive.new", "\\*"))] = spot{api.File, u.r.Intn(8), u.data()}
	}
	if u.rarely(6) {
		p := "deep"
		for range 63 {
			m[p] = spot{api.Dir, 7, ""}
			p += "/x"
		}
		m[p] = u.spot()
	}
	for p := range maps.Clone(m) { // what lies in what was replaced goes with it
		if dir, _, ok := cutLast(p); ok && m[dir].kind != api.Dir {
			delete(m, p)
		}
	}
}

// loosened: caps that what a plot holds keeps to.
func loosened(p plot) api.Caps {
	for v, m := range []picture{p.a, p.b} {
		bytes := 0
		for _, s := range m {
			if s.kind == api.File {
				bytes += len(s.data)
			}
		}
		if p.caps.Names[v] > 0 {
			p.caps.Names[v] = max(p.caps.Names[v], len(m)-1)
		}
		if p.caps.Bytes[v] > 0 {
			p.caps.Bytes[v] = max(p.caps.Bytes[v], bytes)
		}
	}
	return p.caps
}

// text: rules, or something like them.
func (u author) text() string {
	var l []string
	for range u.r.Intn(5) {
		l = append(l, u.of("skip ", "prefer a ", "prefer b ", "#", "", "skip", "prefer c ")+u.of("*", "**", "a", "/", "//", "\\", "*.o", "deep/**", "?", u.noise(), "a\\"))
	}
	return strings.Join(l, u.of("\n", "\n", "\n\n", "\r\n"))
}

func (u author) noise() string {
	b := make([]byte, u.r.Intn(12))
	rand.New(rand.NewSource(u.r.Int63())).Read(b)
	return string(b)
}
