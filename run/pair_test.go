package run

import (
	"fmt"
	"maps"
	"reflect"
	"slices"
	"strings"
	"testing"

	"twine/api"
	"twine/rules"
	"twine/tree"
	"twine/world"
)

// This file: a run and a plain one that are told the same, over two worlds that hold the same, and held against each other behind each call: what they answer, and all of the worlds, the count of reading and changing calls too. What a step of the run does is held against P22.8, P22.11, P22.12 and P22.15 besides.

type pair struct {
	t     testing.TB
	what  string
	w     *world.World
	x     *Run
	twin  *world.World
	plain *plainRun

	strange bool            // the archive that S held at the beginning may have marks
	steps   int             // since Begin
	staged  int             // things in the staging places at Begin
	edited  [2][]string     // paths that edits named since Begin
	busy    bool            // there was an edit, a fall or a cancel since Begin
	planned bool            // the run told DidPlan
	before  [3]picture      // at Begin
	told    map[string]int  // replies
	others  map[string]spot // of S, but for the archive's two files
}

// paired makes both; what was rigged in w goes on, in both alike.
func paired(t testing.TB, w *world.World, most int) *pair {
	twin := w.Copy()
	q := &pair{t: t, w: w, x: New(w, most), twin: twin, plain: plainOf(twin, most), told: map[string]int{}}
	q.others = otherThings(w)
	if c, ok := t.(interface{ Cleanup(func()) }); ok {
		c.Cleanup(q.plain.end)
	}
	return q
}

// counted: no call fails, but all calls are counted, so that no run makes one more or less than the plain one.
func (q *pair) counted() *pair {
	for v := range 3 {
		q.rig(v, 1<<40, 0, 0, true)
		q.rig(v, 1<<40, 0, 0, false)
	}
	return q
}

func otherThings(w *world.World) map[string]spot {
	m := pictured(w, api.S, true)
	delete(m, "archive")
	delete(m, "archive.new")
	return m
}

func (q *pair) failf(form string, l ...any) {
	q.t.Helper()
	q.t.Fatalf("%s, step %d: %s", q.what, q.steps, fmt.Sprintf(form, l...))
}

func (q *pair) edit(v int, l ...api.Edit) {
	q.t.Helper()
	for _, e := range l {
		if x := q.tryEdit(v, e); x != api.OK {
			q.failf("edit %+v: %d", e, x)
		}
	}
}

func (q *pair) tryEdit(v int, e api.Edit) api.Errno {
	x := q.w.Edit(v, e)
	q.twin.Edit(v, e)
	if v < 2 && x == api.OK {
		q.edited[v] = append(q.edited[v], e.Path)
		if e.Kind == api.EditRename || e.Kind == api.EditExchange {
			q.edited[v] = append(q.edited[v], e.To)
		}
	}
	q.busy = true
	return x
}

func (q *pair) tick() {
	q.w.Tick()
	q.twin.Tick()
}

func (q *pair) rig(v, after, calls, part int, reading bool) {
	q.w.Rig(v, after, calls, part, reading)
	q.twin.Rig(v, after, calls, part, reading)
}

func (q *pair) fall(names [3]int, keep [3][]int) {
	q.w.Fall(names, keep)
	q.twin.Fall(names, keep)
	q.busy = true
	q.others = otherThings(q.w)
	q.alike("a fall")
}

func (q *pair) begin(text string) api.Errno {
	q.t.Helper()
	return q.beginBy(parsed(q.t, text))
}

func (q *pair) beginBy(r *rules.Rules) api.Errno {
	q.t.Helper()
	on := q.x.Status() != api.Status{}
	e := q.x.Begin(r)
	if f := q.plain.Begin(r); e != f {
		q.failf("Begin: %d, want %d", e, f)
	}
	if e == api.OK && on {
		q.failf("Begin while a run is under way")
	}
	if e == api.OK {
		q.mark()
	}
	q.alike("Begin")
	return e
}

// mark notes how all is at a Begin.
func (q *pair) mark() {
	q.steps, q.staged, q.edited, q.busy, q.planned = 0, 0, [2][]string{}, false, false
	for v := range 3 {
		q.before[v] = pictured(q.w, v, v == api.S)
	}
	for v := range 2 {
		for _, x := range q.w.Image(v) {
			if isStaging(x.Path) {
				q.staged++
			}
		}
	}
}

func (q *pair) cancel() api.Errno {
	q.t.Helper()
	e := q.x.Cancel()
	if f := q.plain.Cancel(); e != f {
		q.failf("Cancel: %d, want %d", e, f)
	}
	q.busy = q.busy || e == api.OK
	q.alike("Cancel")
	return e
}

func (q *pair) forget() api.Errno {
	q.t.Helper()
	e := q.x.Forget()
	if f := q.plain.Forget(); e != f {
		q.failf("Forget: %d, want %d", e, f)
	}
	q.alike("Forget")
	return e
}

// do does a step, and looks at all that is promised of it.
func (q *pair) do() api.Reply {
	q.t.Helper()
	before := [2]picture{pictured(q.w, api.A, false), pictured(q.w, api.B, false)}
	settled := q.plain.settled
	r := q.x.Do()
	if want := q.plain.Do(); r != want {
		q.failf("told %s, want %s", toldReply(r), toldReply(want))
	}
	if r.Did != api.DidNothing {
		q.steps++
	}
	q.told[didName(r.Did)]++
	if r.Err != api.OK {
		q.told[fmt.Sprint(didName(r.Did), " ", int(r.Err))]++
	}
	q.planned = q.planned || r.Did == api.DidPlan
	q.alike("Do")
	q.changedRightly(before, r)
	if q.plain.settled && !settled {
		q.isSure()
	}
	switch r.Did {
	case api.DidEnd, api.DidBad, api.DidFault:
		q.endedEarly()
	}
	if others := otherThings(q.w); !maps.Equal(others, q.others) {
		q.failf("P22.15: S: %s, was %s", picture(others).told(), picture(q.others).told())
	}
	return r
}

// dos: so many steps; what they told.
func (q *pair) dos(n int) string {
	q.t.Helper()
	var l []string
	for range n {
		l = append(l, toldReply(q.do()))
	}
	return strings.Join(l, " ")
}

// ends: steps till the run is over; what they told.
func (q *pair) ends() string {
	q.t.Helper()
	var l []string
	for q.x.Status().Phase != api.DidNothing {
		l = append(l, toldReply(q.do()))
	}
	return strings.Join(l, " ")
}

// until: steps till one tells that; what they told.
func (q *pair) until(did int) string {
	q.t.Helper()
	var l []string
	for {
		r := q.do()
		l = append(l, toldReply(r))
		if r.Did == did || r.Did == api.DidNothing {
			return strings.Join(l, " ")
		}
	}
}

// round: a whole run; its report.
func (q *pair) round(text string) string {
	q.t.Helper()
	if e := q.begin(text); e != api.OK {
		q.failf("Begin: %d", e)
	}
	q.ends()
	return toldReport(q.x.Report())
}

// alike looks that both answer the same, and that their worlds are the same in everything.
func (q *pair) alike(what string) {
	q.t.Helper()
	if a, b := q.x.Status(), q.plain.Status(); a != b {
		q.failf("%s: Status: %+v, want %+v", what, a, b)
	}
	if a, b := q.x.Report(), q.plain.Report(); a.Over != b.Over || a.Saved != b.Saved || a.Err != b.Err || a.Forgot != b.Forgot || !slices.Equal(a.Entries, b.Entries) {
		q.failf("%s: Report: %s, want %s", what, toldReport(a), toldReport(b))
	}
	m, p := q.x.Merge()
	n, o := q.plain.Merge()
	if !slices.Equal(m.Cells, n.Cells) || !slices.Equal(p.Items, o.Items) || !slices.Equal(p.Left, o.Left) || p.Need != o.Need {
		q.failf("%s: Merge: %v, %v, want %v, %v", what, m, p, n, o)
	}
	if !reflect.DeepEqual(q.w, q.twin) {
		q.failf("%s: the worlds:\n%s\nwant\n%s", what, toldWorld(q.w), toldWorld(q.twin))
	}
}

func toldWorld(w *world.World) string {
	s := fmt.Sprint("clock ", w.Clock())
	for v := range 3 {
		s += "\n" + pictured(w, v, true).told()
	}
	return s
}

// P22.8: a step changes nothing outside the staging places, or it puts just what one scan told over just what the other one told.
func (q *pair) changedRightly(before [2]picture, r api.Reply) {
	q.t.Helper()
	for v := range 2 {
		now := pictured(q.w, v, false)
		if maps.Equal(before[v], now) {
			continue
		}
		if r.Did != api.DidPut {
			q.failf("P22.8: %s changes volume %d: %s, was %s", toldReply(r), v, now.told(), before[v].told())
		}
		it := q.plain.plan.Items[r.Item-1]
		if it.To != v || it.Path != r.Path {
			q.failf("P22.8: %s changes volume %d", toldReply(r), v)
		}
		src, dst := q.scanned(it.From, it.Path), q.scanned(it.To, it.Path)
		if it.What == api.Both {
			src, dst = map[string]api.Value{it.Path: src[it.Path]}, map[string]api.Value{it.Path: dst[it.Path]}
		}
		rest := func(m picture) picture {
			return without(m, func(p string) bool { return p == it.Path || it.What == api.Carry && lies(p, it.Path) })
		}
		gone, come := taken(before[v], rest(before[v])), taken(now, rest(now))
		if !maps.Equal(rest(before[v]), rest(now)) || !maps.Equal(gone.values(), dst) || !maps.Equal(come.values(), src) {
			q.failf("P22.8: %s: %s, was %s", toldReply(r), now.told(), before[v].told())
		}
	}
}

// scanned: what a scan told at and below a path.
func (q *pair) scanned(v int, root string) map[string]api.Value {
	l := map[string]api.Value{}
	for p, x := range q.plain.scans[v].Tree().All() {
		if lies(p, root) {
			l[p] = x
		}
	}
	return l
}

func without(m picture, out func(p string) bool) picture {
	m = maps.Clone(m)
	maps.DeleteFunc(m, func(p string, _ spot) bool { return out(p) })
	return m
}

// taken: what m has and rest hasn't.
func taken(m, rest picture) picture {
	return without(m, func(p string) bool { _, ok := rest[p]; return ok })
}

// P22.11: behind the last Sync of the volumes what the new archive has by this run would be there behind any fall, or a user has changed it.
func (q *pair) isSure() {
	q.t.Helper()
	if q.strange {
		return
	}
	fallen := q.w.After([3]int{}, [3][]int{})
	hows := q.plain.hows()
	for v := range 2 {
		sure := pictured(fallen, v, false)
		for p, x := range q.settledFiles(hows) {
			if sure[p].value() != x && !q.isEdited(v, p) {
				q.failf("P22.11: %s on volume %d: behind a fall %s", p, v, sure.told())
			}
		}
	}
}

// settledFiles: those that the new archive has by what was agreed or carried.
func (q *pair) settledFiles(hows []int) map[string]api.Value {
	l := map[string]api.Value{}
	for i, c := range q.plain.merge.Cells {
		v := -1
		switch {
		case c.What == api.Agreed && hows[i] == api.HowNone:
			v = api.A
		case c.What == api.Carry && hows[i] == api.HowPut:
			v = c.Side - 1
		default:
			continue
		}
		for p, x := range q.scanned(v, c.Path) {
			if x.Kind == api.File {
				l[p] = x
			}
		}
	}
	return l
}

func (q *pair) isEdited(v int, p string) bool {
	return slices.ContainsFunc(q.edited[v], func(at string) bool { return lies(p, at) })
}

// P22.12: so many steps at most.
func (q *pair) endedEarly() {
	q.t.Helper()
	most := 32 + 3*q.staged + len(q.plain.bytes)/512
	for _, s := range q.plain.scans {
		if s != nil {
			most += 8 * s.Listed()
		}
	}
	for _, it := range q.plain.plan.Items {
		if it.What == api.Carry {
			for _, x := range q.scanned(it.From, it.Path) {
				most += 10 * (1 + pieces(x))
			}
		}
	}
	if q.steps > most {
		q.failf("P22.12: %d steps, at most %d", q.steps, most)
	}
}

func pieces(x api.Value) int {
	if x.Kind != api.File {
		return 0
	}
	return (x.Size + 511) / 512
}

// P22.9: behind a run without edits, falls and cancels.
func (q *pair) heldOut() {
	q.t.Helper()
	if q.busy {
		q.failf("an edit, a fall or a cancel")
	}
	for v := range 2 {
		wanted := q.before[v].values()
		if q.planned {
			wanted = q.mergedInto(v, wanted)
		}
		if now := pictured(q.w, v, false); !maps.Equal(now.values(), wanted) {
			q.failf("P22.9: volume %d: %s, was %s, %s", v, now.told(), q.before[v].told(), toldReport(q.x.Report()))
		}
	}
	now, was := pictured(q.w, api.S, true)["archive"], q.before[api.S]["archive"]
	switch saved := q.x.Report().Saved; {
	case saved == api.SavedNo && now != was:
		q.failf("P22.9: the archive isn't the old one")
	case saved != api.SavedNo && now.data != string(q.plain.bytes):
		q.failf("P22.9: the archive isn't the new one")
	}
}

// mergedInto: a volume's values with all that was put there.
func (q *pair) mergedInto(v int, was map[string]api.Value) map[string]api.Value {
	m := maps.Clone(was)
	for _, it := range q.plain.plan.Items {
		how := q.x.Report().Entries[it.Cell].How
		if it.To != v || how != api.HowPut && how != api.HowWeak {
			continue
		}
		src := q.scanned(it.From, it.Path)
		if it.What == api.Both {
			m[it.Path] = src[it.Path]
			continue
		}
		maps.DeleteFunc(m, func(p string, _ api.Value) bool { return lies(p, it.Path) })
		maps.Copy(m, src)
	}
	return m
}

// unmarked: a tree without marks.
func unmarked(t testing.TB, x *tree.Tree) *tree.Tree {
	t.Helper()
	for p, v := range x.All() {
		y, e := x.Set(p, v, [2]api.Mark{})
		mustWant(t, "Set", e, api.OK)
		x = y
	}
	return x
}
