package run

import (
	"fmt"
	"math"
	"strings"
	"testing"

	"twine/api"
	"twine/rules"
	"twine/world"
)

// The path of each step; quick files, links, what the rules let be, and the staging place.
func TestP19_4Scan(t *testing.T) {
	w := worldOf(t, "d@5 d/f:6*600 d/x.o:6=abc e:6= l>to", "d@5 z@7 z/l>to .twine@7", "")
	q := paired(t, w, 100).counted()
	q.begin("skip *.o")
	q.until(api.DidClean)
	want(t, "scans", q.until(api.DidPlan), "scan scan:d scan:d/f scan:d/f scan:e scan:l scan scan:d scan:z scan:z/l plan")
	q.ends()
	want(t, "the archive", archiveTold(w), "@7 d@5 d/f:6.600(12,0) e:6.0(14,0) l>2 z@7 z/l>2")
	q.begin("skip *.o")
	want(t, "quick on A", q.until(api.DidPlan), "load load scan scan:d scan:d/f scan:e scan:l scan:z scan:z/l scan scan:d scan:d/f scan:d/f scan:e scan:l scan:z scan:z/l plan")
}

// most nodes are right, one more is too many: on A behind its last step, on B behind its. What the rules let be, and the staging place, count for nothing.
func TestP19_4Most(t *testing.T) {
	side := map[int]string{4: "a@7 b:6=x c>to x.o:6=y .twine@7 .twine/z@7", 5: "a@7 a/f:6=x b:6=x c>to x.o:6=y .twine@7"}
	for _, c := range []struct {
		a, b int
		told string
	}{
		{4, 4, "end yes"},
		{5, 4, "bad no 192"},
		{4, 5, "bad no 192"},
		{5, 5, "bad no 192"},
	} {
		q := paired(t, worldOf(t, side[c.a], side[c.b], ""), 4).counted()
		q.what = fmt.Sprint(c.a, c.b)
		got, _, _ := strings.Cut(q.round("skip *.o"), ":")
		want(t, q.what, got, c.told)
		m, _ := q.x.Merge()
		want(t, q.what+": Merge", len(m.Cells) > 0, c.told == "end yes")
		want(t, q.what+": entries", len(q.x.Report().Entries) > 0, c.told == "end yes")
		q.heldOut()
	}
	q := paired(t, worldOf(t, side[5], side[5], ""), 4).counted()
	q.begin("skip *.o")
	want(t, "on A", q.ends(), "load load scan scan:a scan:a/f scan:b scan:c bad!192")
	q = paired(t, worldOf(t, side[4], side[5], ""), 4).counted()
	q.begin("skip *.o")
	want(t, "on B", q.ends(), "load load clean:.twine/z scan scan:a scan:b scan:c scan scan:a scan:a/f scan:b scan:c bad!192")
}

// The edge is reckoned behind the scan: users may bring the replica above it, or below it, up to then.
func TestP19_4MostEdited(t *testing.T) {
	q := paired(t, worldOf(t, "a@7 .twine@7", ".twine@7", ""), 2).counted()
	q.begin("")
	q.dos(3)
	q.edit(api.A, newDir("a/b"))
	want(t, "one more", q.ends(), "scan:a scan:a/b bad!192")
	q.begin("")
	q.dos(3)
	q.edit(api.A, remove("a/b"))
	want(t, "one less", q.dos(2), "scan:a scan")
	q.edit(api.A, newDir("a/c"))
	want(t, "one more, too late", q.dos(1), "plan")
}

// most below 1 is 1: the roots alone are right. Above MaxNodes it is MaxNodes.
func TestP19_1MostAtLeastOne(t *testing.T) {
	for _, most := range []int{1, 0, -1, math.MinInt} {
		q := paired(t, worldOf(t, "", "", ""), most).counted()
		want(t, "roots alone", q.round(""), "end yes:  both")
		want(t, "and again", q.round(""), "end yes:  both")
		q.edit(api.B, newFile("f", ""))
		want(t, "one more", q.round(""), "bad no 192")
	}
	for _, most := range []int{api.MaxNodes, api.MaxNodes + 1, math.MaxInt} {
		q := paired(t, worldOf(t, "f:6=abc", "g>to", ""), most).counted()
		want(t, "room enough", q.round(""), "end yes:  both, f carry a put, g carry b put")
	}
}

// A replica of MaxNodes and one more node, however great most is.
func TestP19_1MostAtMostMaxNodes(t *testing.T) {
	t.Parallel()
	l := make([]api.Thing, api.MaxNodes)
	for i := range l {
		l[i] = api.Thing{Path: fmt.Sprintf("%06x", i), Kind: api.File, Number: i + 1, Stamp: 1}
	}
	w, e := world.New(api.Caps{}, 3, [3][]api.Thing{nil, l})
	mustWant(t, "world.New", e, api.OK)
	x := New(w, math.MaxInt)
	mustWant(t, "Begin", x.Begin(rules.None()), api.OK)
	for {
		r := x.Do()
		if r.Did == api.DidScan || r.Did == api.DidLoad || r.Did == api.DidClean {
			continue
		}
		want(t, "told", r, api.Reply{Did: api.DidBad, Err: api.ErrRunMost})
		break
	}
}

// Each reading call of a scan fails once: the path is lost, no error is told, and all else goes on.
func TestP19_4ScanFaults(t *testing.T) {
	conflicts := 0
	for v := range 2 {
		for after := 0; ; after++ {
			q := paired(t, archived(t, "d@5 d/f:6*600 g:6=new .twine@7", "d@5 d/f:6*600 g:6=abc .twine@7", "d@5 d/f:6*600 g:6=abc"), 100).counted()
			q.what = fmt.Sprint("call ", after, " of ", v)
			q.begin("")
			q.until(api.DidScan)
			for v == api.B && q.x.Status().Phase == api.DidScan && q.plain.scans[api.B] == nil {
				q.do()
			}
			q.rig(v, after, 1, 0, true)
			told := q.until(api.DidPlan)
			if strings.Contains(told, "!") {
				t.Error(q.what, told)
			}
			q.ends()
			q.heldOut()
			if n := strings.Count(toldReport(q.x.Report()), "conflict"); n > 0 {
				conflicts++
				continue
			}
			break
		}
	}
	// On A behind the root's step: d's two, d/f's Stat, Read, Read, Stat, g's Stat, Read. B's root has had its step, too.
	want(t, "calls that failed", conflicts, 16)
}

// A root that can't be read: everything is a conflict, nothing is changed, the archive says the same.
func TestP19_4ScanLostRoot(t *testing.T) {
	for _, c := range []struct{ volume, steps, after int }{
		{api.A, 2, 2}, // behind Stat and List of the staging place its Stat
		{api.A, 2, 3}, // its List
		{api.B, 4, 0},
		{api.B, 4, 1},
	} {
		q := paired(t, archived(t, "f:6=new .twine@7", "g:6=abc .twine@7", "f:6=abc"), 100).counted()
		q.begin("prefer a *")
		q.dos(c.steps)
		q.rig(c.volume, c.after, 1, 0, true)
		want(t, "steps", strings.HasPrefix(q.ends(), "scan "), true)
		want(t, "report", toldReport(q.x.Report()), "end yes:  conflict")
		want(t, "archive", archiveTold(q.w), "@7 f:6.3(0,0)")
		q.heldOut()
	}
}
