package audit

import (
	"fmt"
	"slices"
	"strings"
	"testing"

	"twine/api"
	"twine/rules"
	"twine/run"
	"twine/world"
)

// This file: P22.7, whole runs over worlds by chance, held against what After tells of the contents ahead of them.

func worldOf(t testing.TB, caps api.Caps, s scene) *world.World {
	t.Helper()
	w, e := world.New(caps, 3, s.vols)
	mustWant(t, "world.New", e, api.OK)
	return w
}

func images(w *world.World) [3][]api.Thing {
	return [3][]api.Thing{w.Image(api.A), w.Image(api.B), w.Image(api.S)}
}

// ticks: when the clock rises within a run: a step in so many.
func (u author) ticks(w *world.World) {
	if u.rarely(15) {
		w.Tick()
	}
}

// through: a quiet run, from Begin to its end.
func through(t testing.TB, u author, x *run.Run, w *world.World, r *rules.Rules) {
	t.Helper()
	mustWant(t, "Begin", x.Begin(r), api.OK)
	for x.Status().Phase != api.DidNothing {
		u.ticks(w)
		x.Do()
	}
}

// archiveBytes: what stands at the archive's place; nil: nothing.
func archiveBytes(w *world.World) []byte {
	x, ok := find(w.Image(api.S), "archive")
	if !ok {
		return nil
	}
	return append([]byte{}, x.Data...)
}

// archiveTold: the archive's tree, marks aside, in a line.
func archiveTold(t testing.TB, w *world.World) string {
	t.Helper()
	x, e := plainArchive(w.Image(api.S), api.MaxNodes)
	mustWant(t, "the archive", e, api.OK)
	return toldTree(valuesOf(x).tree(t))
}

// replicaLine: a replica's values in a line.
func replicaLine(t testing.TB, w *world.World, v int, r *rules.Rules) string {
	t.Helper()
	m, _ := plainReplica(w.Image(v), r)
	return toldTree(m.tree(t))
}

// letBe: what the rules let be, with numbers and stamps.
func letBe(w *world.World, r *rules.Rules) string {
	var l []string
	for v := range 2 {
		for _, x := range w.Image(v) {
			if r.Skip(x.Path) && !isStaging(x.Path) {
				l = append(l, fmt.Sprint(v, x))
			}
		}
	}
	return strings.Join(l, "\n")
}

// as looks that a world is as an outlook tells.
func as(t testing.TB, what string, w *world.World, r *rules.Rules, x api.Outlook) {
	t.Helper()
	want(t, what+": A", replicaLine(t, w, api.A, r), toldNode(x.A))
	want(t, what+": B", replicaLine(t, w, api.B, r), toldNode(x.B))
	want(t, what+": the archive", archiveTold(t, w), toldNode(x.O))
}

// foretold does a quiet run, and looks that it leads to what After tells ahead of it; true, if it ended, and left nothing out.
func foretold(t testing.TB, what string, u author, x *run.Run, w *world.World, r *rules.Rules, most int) bool {
	t.Helper()
	vols := images(w)
	out, e := After(vols, r, most)
	let := letBe(w, r)
	through(t, u, x, w, r)
	if e != api.OK {
		want(t, what+": refused", toldReport(x.Report()), fmt.Sprintf("bad no %d: ", int(e)))
		return false
	}
	as(t, what, w, r, out)
	want(t, what+": report", toldReport(x.Report()), toldReport(out.Report))
	want(t, what+": let be", letBe(w, r), let)
	_, p := x.Merge()
	return len(p.Left) == 0
}

// stays: a report as that of a further run must be: conflicts and kept directories as they were, else agreed and both alone.
func stays(t testing.TB, what string, once, again []api.Entry) {
	t.Helper()
	lasting := func(l []api.Entry) string {
		return toldEntries(slices.DeleteFunc(slices.Clone(l), func(x api.Entry) bool {
			return x.What != api.Conflict && x.What != api.ModeConflict && x.What != api.Kept
		}))
	}
	want(t, what+": what stays", lasting(again), lasting(once))
	for _, x := range again {
		if x.What == api.Carry || x.Side != 0 && x.What != api.Kept || x.How != api.HowNone {
			t.Errorf("%s: %s", what, toldEntries(again))
		}
	}
}

// path: one at which something stands, one in a directory, or any; mostly none of the staging place's.
func (u author) path(w *world.World, v int) string {
	l := w.Image(v)
	p := l[u.r.Intn(len(l))].Path
	switch n := u.r.Intn(4); {
	case n == 0 || p == "" || isStaging(p) && !u.rarely(20):
		return u.name()
	case n == 1:
		return joined(p, u.name())
	}
	return p
}

// edits: what users do; some edits are refused.
func (u author) edits(w *world.World, n int) {
	for range n {
		v := u.r.Intn(2)
		e := api.Edit{
			Kind: u.one(api.EditMkdir, api.EditFile, api.EditFile, api.EditLink, api.EditWrite, api.EditWrite, api.EditAppend, api.EditChmod, api.EditChmod, api.EditRename, api.EditRename, api.EditExchange, api.EditRemove, api.EditRemove, api.EditSync, api.EditSettle),
			Path: u.path(w, v), To: u.path(w, v), Mode: u.one(7, 5, 6, 4), Data: []byte(u.data()),
		}
		if e.Kind == api.EditChmod && u.rarely(6) {
			e.Path = ""
		}
		w.Edit(v, e)
		u.ticks(w)
	}
}

// Run behind run, with edits between them; a further run behind each.
func TestP22_7After(t *testing.T) {
	t.Parallel()
	fit, refused := 0, 0
	for seed := range 700 {
		u := authorOf(seed)
		s := u.scene(t)
		w := worldOf(t, api.Caps{}, s)
		for i := range 3 {
			what := fmt.Sprint("world ", seed, ", run ", i)
			r := u.rules(t)
			x := run.New(w, s.most)
			if !foretold(t, what, u, x, w, r, s.most) {
				refused++
				continue
			}
			fit++
			once, a, b, o := x.Report().Entries, replicaLine(t, w, api.A, r), replicaLine(t, w, api.B, r), archiveTold(t, w)
			if !foretold(t, what+", again", u, x, w, r, s.most) {
				continue
			}
			stays(t, what, once, x.Report().Entries)
			want(t, what+", again: A", replicaLine(t, w, api.A, r), a)
			want(t, what+", again: B", replicaLine(t, w, api.B, r), b)
			want(t, what+", again: the archive", archiveTold(t, w), o)
			u.edits(w, u.r.Intn(6))
		}
	}
	if fit < 1200 || refused < 20 {
		t.Errorf("but %d runs fit, and %d didn't", fit, refused)
	}
}

// P21.5, of errors: a run that After refuses is refused for the same reason. (A directory with contents at the new archive's place stops a run, which is no matter of After's.)
func TestP22_7Refused(t *testing.T) {
	t.Parallel()
	told := map[api.Errno]int{}
	for seed := range 2500 {
		u := authorOf(seed)
		s := u.scene(t)
		u.odd(t, &s)
		s.vols[api.S] = slices.DeleteFunc(s.vols[api.S], func(x api.Thing) bool { return strings.HasPrefix(x.Path, "archive.new/") })
		s.most = u.one(0, 1, 2, 3, 5, 8, 100)
		_, e := After(s.vols, s.rules, s.most)
		if e == api.OK {
			continue
		}
		w := worldOf(t, api.Caps{}, s)
		foretold(t, fmt.Sprint("world ", seed), u, run.New(w, s.most), w, s.rules, s.most)
		told[e]++
	}
	for _, e := range []api.Errno{api.ErrCodecMark, api.ErrCodecVersion, api.ErrCodecSum, api.ErrCodecForm, api.ErrCodecBounds, api.ErrCodecHash, api.ErrStoreKind, api.ErrRunMost} {
		if told[e] < 5 {
			t.Errorf("%d was told but %d times", e, told[e])
		}
	}
}

// room: names and bytes of things outside the staging place, as behind 'clean'.
func room(l []api.Thing) api.Room {
	n := api.Room{Names: 1} // the staging place's
	for _, x := range l {
		if x.Path == "" || isStaging(x.Path) {
			continue
		}
		n.Names++
		if x.Kind == api.File {
			n.Bytes += len(x.Data)
		}
	}
	return n
}

// all: names and bytes of all things.
func all(l []api.Thing) api.Room {
	var n api.Room
	for _, x := range l {
		if x.Path != "" {
			n.Names++
		}
		if x.Kind == api.File {
			n.Bytes += len(x.Data)
		}
	}
	return n
}

// tight: caps with which a run just fits: each volume has as much room as is needed, and no more.
func tight(t testing.TB, s scene) api.Caps {
	t.Helper()
	loose := worldOf(t, api.Caps{}, s)
	through(t, authorOf(0), run.New(loose, s.most), loose, s.rules)
	x, _ := look(t, s)
	p := x.plan()
	var caps api.Caps
	set := func(v int, n, least api.Room) { // 0 would be no bound
		caps.Names[v], caps.Bytes[v] = max(n.Names, least.Names, 1), max(n.Bytes, least.Bytes, 1)
	}
	for v := range 2 {
		n := room(s.vols[v])
		n.Names += p.Need[v].Names
		n.Bytes += p.Need[v].Bytes
		set(v, n, all(s.vols[v]))
	}
	n := all(slices.DeleteFunc(slices.Clone(s.vols[api.S]), func(x api.Thing) bool { return x.Path == "archive.new" }))
	n.Names++
	n.Bytes += len(archiveBytes(loose))
	set(api.S, n, all(s.vols[api.S]))
	return caps
}

// A run that just fits.
func TestP22_7Tight(t *testing.T) {
	t.Parallel()
	fit, short := 0, 0
	for seed := range 800 {
		u := authorOf(seed)
		s := u.scene(t)
		s.most = 100
		if u.rarely(3) {
			s.vols[api.S] = slices.Concat(s.vols[api.S], things(310, u.of("archive.new:6=half", "other:6=mine", "archive.new@7")))
		}
		what := fmt.Sprint("world ", seed)
		if x, ok := look(t, s); !ok || len(x.plan().Left) > 0 {
			continue
		}
		caps := tight(t, s)
		w := worldOf(t, caps, s)
		// With the same ticks, so that marks, and the archive's bytes, are those that were reckoned.
		foretold(t, what, authorOf(0), run.New(w, s.most), w, s.rules, s.most)
		fit++
		v := u.r.Intn(3)
		if u.rarely(2) {
			caps.Bytes[v]--
		} else {
			caps.Names[v]--
		}
		less, e := world.New(caps, 3, s.vols)
		if e != api.OK || caps.Bytes[v] == 0 || caps.Names[v] == 0 {
			continue
		}
		y := run.New(less, s.most)
		through(t, authorOf(0), y, less, s.rules)
		out, _ := After(s.vols, s.rules, s.most)
		if toldReport(y.Report()) != toldReport(out.Report) {
			short++
		}
	}
	if fit < 600 || short < 100 {
		t.Errorf("but %d runs fit, and %d fell short with less", fit, short)
	}
}

// Behind a run all of whose cells were settled or carried nothing is wrong, and what it would make of it is that it stays.
func TestP22_7NoFaults(t *testing.T) {
	t.Parallel()
	clean := 0
	for seed := range 900 {
		u := authorOf(seed)
		s := u.scene(t)
		w := worldOf(t, api.Caps{}, s)
		for i := range 2 {
			what := fmt.Sprint("world ", seed, ", run ", i)
			r := u.rules(t)
			x := run.New(w, api.MaxNodes)
			through(t, u, x, w, r)
			l, e := Faults(images(w), r, api.MaxNodes)
			want(t, what+": Faults", e, api.OK)
			if slices.ContainsFunc(x.Report().Entries, func(y api.Entry) bool {
				return y.What == api.Conflict || y.What == api.ModeConflict || y.What == api.Kept
			}) {
				for _, f := range l {
					if f.Err == api.ErrAuditLeft || f.At == api.S {
						t.Errorf("%s: %s", what, toldFaults(l))
					}
				}
				continue
			}
			clean++
			want(t, what, toldFaults(l), "")
			out, _ := After(images(w), r, api.MaxNodes)
			want(t, what+": settled", settled(out.Report.Entries), true)
			u.edits(w, u.r.Intn(5))
		}
	}
	if clean < 300 {
		t.Errorf("but %d were clean", clean)
	}
}

// P22.7 by the examples of layers 14 and 18, with each kind of cell.
func TestP22_7Kinds(t *testing.T) {
	for _, c := range []struct{ what, a, b, o, rules string }{
		{"carried", "d@7 d/f:6=2", "d@7 d/f:6=1", "d@7 d/f:6=1", ""},
		{"gone", "", "d@7 d/f:6=1", "d@7 d/f:6=1", ""},
		{"kept", "", "d@7 d/f:6=1 d/x.o:6=1", "d@7 d/f:6=1", "skip *.o"},
		{"conflict", "", "d@7 d/f:6=2", "d@7 d/f:6=1", ""},
		{"preferred", "", "d@7 d/f:6=2", "d@7 d/f:6=1", "prefer b d"},
		{"a mode", "d@5 d/f:6=1", "d@7 d/f:6=1", "d@7 d/f:6=1", ""},
		{"modes", "@5 d@5", "@6 d@6", "d@7", ""},
		{"no archive", "@5 d@5 f:6=1 g:6=1", "@5 d@5 f:6=2 h>to", "", ""},
		{"unknown modes", "@5 d@5 f:6=1", "@6 d@6 f:5=1", "@8 d@8 f:8=1", "prefer a *"},
		{"staged things", ".twine@7 .twine/1@7 .twine/1/f:6=1 f:6*1100", ".twine>x", "", ""},
		{"below a long way", "d@7 d/e@7 d/e/f@7 d/e/f/g:6=1", "d@7 d/e@7", "d@7 d/e@7", ""},
	} {
		s := scene{archived(t, c.a, c.b, c.o), parsed(t, c.rules), 100}
		for range 2 {
			w := worldOf(t, api.Caps{}, s)
			x := run.New(w, s.most)
			want(t, c.what, foretold(t, c.what, authorOf(1), x, w, s.rules, s.most), true)
			once := x.Report().Entries
			want(t, c.what, foretold(t, c.what+", again", authorOf(2), x, w, s.rules, s.most), true)
			stays(t, c.what, once, x.Report().Entries)
			s.vols[api.A], s.vols[api.B], s.rules = s.vols[api.B], s.vols[api.A], s.rules.Mirror()
		}
	}
}

// As deep as paths may be: what is carried stands two names deeper while it is staged.
func TestP22_7Deep(t *testing.T) {
	p := names(63) + "/f"
	x := with(fileThing(p), func(x *api.Thing) { x.Number, x.Sure = 999, 3 })
	s := scene{[3][]api.Thing{append(chain(above(p), 1), x), chain(".twine/"+names(65), 2000), nil}, rules.None(), 100}
	w := worldOf(t, api.Caps{}, s)
	y := run.New(w, s.most)
	want(t, "carried", foretold(t, "carried", authorOf(1), y, w, s.rules, s.most), true)
	want(t, "what it was", toldEntries(y.Report().Entries), " both, n carry a put")
	want(t, "again", foretold(t, "again", authorOf(2), y, w, s.rules, s.most), true)
	mustWant(t, "a removal", w.Edit(api.B, api.Edit{Kind: api.EditRemove, Path: p}), api.OK)
	want(t, "gone", foretold(t, "gone", authorOf(3), y, w, s.rules, s.most), true)
	want(t, "what went", strings.HasSuffix(toldEntries(y.Report().Entries), p+" carry b put"), true)
}
