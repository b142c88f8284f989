package run

import (
	"fmt"
	"reflect"
	"testing"

	"twine/api"
	"twine/rules"
)

// idle looks that there is no run, and that nothing happens by asking.
func idle(t testing.TB, what string, q *pair) {
	t.Helper()
	w, report := q.w.Copy(), toldReport(q.x.Report())
	m, p := q.x.Merge()
	want(t, what+": Do", q.x.Do(), api.Reply{Did: api.DidNothing, Err: api.ErrRunNone})
	want(t, what+": Cancel", q.x.Cancel(), api.ErrRunNone)
	want(t, what+": Status", q.x.Status(), api.Status{})
	want(t, what+": Report", toldReport(q.x.Report()), report)
	n, o := q.x.Merge()
	if !reflect.DeepEqual(m, n) || !reflect.DeepEqual(p, o) {
		t.Errorf("%s: Merge: %v %v, was %v %v", what, n, o, m, p)
	}
	if !reflect.DeepEqual(w, q.w) {
		t.Errorf("%s: the world has changed", what)
	}
}

func noMerge(t testing.TB, what string, x *Run) {
	t.Helper()
	m, p := x.Merge()
	if len(m.Cells)+len(p.Items)+len(p.Left) > 0 || p.Need != [2]api.Room{} {
		t.Errorf("%s: Merge: %v, %v", what, m, p)
	}
}

const lonely = "end yes:  both, f carry a put" // the report of the first run over lonelyFile

// lonelyFile: f on A alone.
func lonelyFile(t testing.TB) *pair {
	return paired(t, worldOf(t, "f:6=abc", "", ""), 100).counted()
}

func TestP19_1New(t *testing.T) {
	q := lonelyFile(t)
	before := q.w.Copy()
	New(q.w, 0)
	q.x = New(q.w, 100)
	if !reflect.DeepEqual(before, q.w) {
		t.Error("the world has changed")
	}
	idle(t, "ahead of all runs", q)
	noMerge(t, "ahead of all runs", q.x)
	want(t, "Report", toldReport(q.x.Report()), "not no")
	want(t, "Forget", q.x.Forget(), api.OK)
	want(t, "Begin", q.x.Begin(rules.None()), api.OK)
}

// While a run is under way, at each of its moments, nobody begins one; and nothing changes by trying.
func TestP19_2BeginUnderWay(t *testing.T) {
	q := lonelyFile(t)
	y := New(q.w, 9)
	mustWant(t, "Begin", q.begin(""), api.OK)
	for q.x.Status().Phase != api.DidNothing {
		before, status := q.w.Copy(), q.x.Status()
		want(t, "Begin", q.x.Begin(rules.None()), api.ErrRunRunning)
		want(t, "Begin of another object", y.Begin(rules.None()), api.ErrRunRunning)
		want(t, "Status", q.x.Status(), status)
		want(t, "the other one's Status", y.Status(), api.Status{})
		want(t, "the other one's Do", y.Do(), api.Reply{Err: api.ErrRunNone})
		want(t, "the other one's Cancel", y.Cancel(), api.ErrRunNone)
		want(t, "Report", toldReport(q.x.Report()), "not no")
		if !reflect.DeepEqual(before, q.w) {
			t.Fatal("the world has changed")
		}
		q.do()
	}
	want(t, "Report", toldReport(q.x.Report()), lonely)
	want(t, "behind its end", y.Begin(rules.None()), api.OK)
	want(t, "now the other one has it", q.x.Begin(rules.None()), api.ErrRunRunning)
	want(t, "refused: Report", toldReport(q.x.Report()), lonely)
	if m, _ := q.x.Merge(); len(m.Cells) != 2 {
		t.Error("refused: Merge:", m)
	}
	want(t, "Status", q.x.Status(), api.Status{})
}

// What earlier runs told is forgotten, once another one begins.
func TestP19_2BeginForgets(t *testing.T) {
	q := lonelyFile(t)
	want(t, "first", q.round(""), lonely)
	mustWant(t, "Begin", q.begin(""), api.OK)
	want(t, "Report", toldReport(q.x.Report()), "not no")
	noMerge(t, "behind Begin", q.x)
	q.dos(2)
	noMerge(t, "ahead of DidPlan", q.x)
	q.fall([3]int{}, [3][]int{})
	want(t, "behind a fall", toldReport(q.x.Report()), "not no")
	noMerge(t, "behind a fall", q.x)
}

// However a run ends, it lets the world go.
func TestP19_2Release(t *testing.T) {
	for what, c := range map[string]struct {
		end  func(q *pair)
		told string
	}{
		"end":    {func(q *pair) { q.ends() }, lonely},
		"cancel": {func(q *pair) { q.dos(3); q.cancel() }, "cancel no"},
		"second cancel": {func(q *pair) { q.until(api.DidPlan); q.cancel(); q.cancel() },
			"cancel no:  both, f carry a left"},
		"fault": {func(q *pair) { q.rig(api.A, 0, 1, 0, false); q.ends() }, "fault no 92"},
		"bad": {func(q *pair) {
			q.until(api.DidClean)
			for i := range 100 {
				q.edit(api.A, newDir(fmt.Sprint("d", i)))
			}
			q.ends()
		}, "bad no 192"},
		"fall": {func(q *pair) { q.dos(3); q.fall([3]int{9, 9, 9}, [3][]int{}) }, "not no"},
	} {
		q := lonelyFile(t)
		q.what = what
		q.begin("")
		c.end(q)
		want(t, what, toldReport(q.x.Report()), c.told)
		idle(t, what, q)
		y := New(q.w, 9)
		want(t, what+": another object's Begin", y.Begin(rules.None()), api.OK)
		want(t, what+": Begin then", q.x.Begin(rules.None()), api.ErrRunRunning)
		want(t, what+": Do then", q.x.Do(), api.Reply{Err: api.ErrRunNone})
		want(t, what+": Cancel then", q.x.Cancel(), api.ErrRunNone)
		want(t, what+": Forget then", q.x.Forget(), api.OK)
		want(t, what+": the other's Do", y.Do(), api.Reply{Did: api.DidLoad})
		want(t, what+": its Cancel", y.Cancel(), api.OK)
		want(t, what+": Begin again", q.x.Begin(rules.None()), api.OK)
	}
}

// Somebody else has the world's claim.
func TestP19_2Claimed(t *testing.T) {
	q := lonelyFile(t)
	claim := q.w.Claim()
	q.twin.Claim()
	want(t, "Begin", q.begin(""), api.ErrRunRunning)
	idle(t, "claimed", q)
	q.w.Release(claim)
	q.twin.Release(claim)
	want(t, "let go", q.begin(""), api.OK)
	q.dos(2)
	q.w.Release(claim + 1)
	q.twin.Release(claim + 1)
	idle(t, "the run's own claim let go", q)
	want(t, "Report", toldReport(q.x.Report()), "not no")
	want(t, "Begin again", q.round(""), lonely)
}

// A fall takes the run at each of its moments: no report; another one begins as if there had been none.
func TestP19_1Fall(t *testing.T) {
	for n := range 40 {
		q := lonelyFile(t)
		q.begin("")
		q.dos(n)
		q.what = "a fall"
		over := q.x.Status().Phase == api.DidNothing
		q.fall([3]int{99, 99, 99}, [3][]int{{99}, {99}, {9999}})
		idle(t, "a fall", q)
		if over {
			want(t, "a fall behind the end", toldReport(q.x.Report()), lonely)
			return
		}
		want(t, "Report", toldReport(q.x.Report()), "not no")
		m, _ := q.x.Merge()
		want(t, "Merge is the last one's that told DidPlan", len(m.Cells) > 0, q.planned)
		want(t, "Forget", q.x.Forget(), api.OK)
		want(t, "Begin", q.x.Begin(rules.None()), api.OK)
		noMerge(t, "Begin", q.x)
	}
	t.Error("it never ended")
}
