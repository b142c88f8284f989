package run

import (
	"fmt"
	"strings"
	"testing"

	"twine/api"
)

// Both staging places, whatever stands there: the steps of A's, those of B's, and the last thing by path first.
func TestP19_4Clean(t *testing.T) {
	cases := []struct{ things, steps string }{
		{"", ".twine"},
		{".twine:6=abc", ".twine .twine"},
		{".twine>to", ".twine .twine"},
		{".twine@7", ""},
		{".twine@0", ""},
		{".twine@7 .twine/1:6=abc", ".twine/1"},
		{".twine@7 .twine/1@5", ".twine/1"},
		{".twine@7 .twine/1>to .twine/a@7 .twine/a/b@7 .twine/a/b/c:6=x .twine/a.b:6=y .twine/a/d@7", ".twine/a.b .twine/a/d .twine/a/b/c .twine/a/b .twine/a .twine/1"},
		{".twine@7 .twine/.twine@7 .twine/.twine/x:6=", ".twine/.twine/x .twine/.twine"},
	}
	for _, a := range cases {
		for _, b := range cases {
			q := paired(t, worldOf(t, a.things, b.things, ""), 100).counted()
			q.what = a.things + " | " + b.things
			q.begin("")
			q.dos(2)
			l := append(strings.Fields(a.steps), strings.Fields(b.steps)...)
			for _, p := range l {
				want(t, q.what, q.do(), api.Reply{Did: api.DidClean, Path: p})
			}
			want(t, q.what, q.do(), api.Reply{Did: api.DidScan})
			for v, x := range []string{a.things, b.things} {
				mode := 7
				if strings.HasPrefix(x, ".twine@0") {
					mode = 0
				}
				want(t, q.what, pictured(q.w, v, true).told(), fmt.Sprintf("@7 .twine@%d", mode))
			}
			want(t, q.what, q.ends(), "scan plan sure sure "+saving)
		}
	}
}

// As deep as a path may be.
func TestP19_4CleanDeep(t *testing.T) {
	line := ".twine@7"
	for n := 1; n < api.MaxWay; n++ {
		line += " .twine" + strings.Repeat("/d", n) + "@7"
	}
	q := paired(t, worldOf(t, "", line, ""), 100).counted()
	q.begin("")
	want(t, "A", q.dos(3), "load load clean:.twine")
	for n := api.MaxWay - 1; n > 0; n-- {
		want(t, "B", q.do(), api.Reply{Did: api.DidClean, Path: ".twine" + strings.Repeat("/d", n)})
	}
	want(t, "then", q.ends(), "scan scan plan sure sure "+saving)
}

// Each call of the phase fails once, on each side: the run ends, nothing is told of the path, and the next run goes on.
func TestP19_4CleanFaults(t *testing.T) {
	for _, c := range []struct {
		things            string
		reading, changing int // calls up to the last step of the phase, and its own
	}{
		{"", 3, 1},
		{".twine:6=abc", 4, 2},
		{".twine@7", 2, 0},
		{".twine@7 .twine/a@7 .twine/a/b:6=x .twine/c@7", 4 + 5 + 4 + 2, 3},
	} {
		for v := range 2 {
			for _, reading := range []bool{true, false} {
				calls := c.changing
				if reading {
					calls = c.reading
				}
				for after := range calls + 1 {
					line := [2]string{".twine@7", ".twine@7"}
					line[v] = c.things
					q := paired(t, worldOf(t, line[0], line[1], ""), 100).counted()
					q.what = fmt.Sprint(c.things, " on ", v, ", call ", after, reading)
					q.begin("")
					q.dos(2)
					q.rig(v, after, 1, 0, reading)
					told := q.until(api.DidScan)
					failed := strings.HasSuffix(told, "fault!92 nothing!191")
					want(t, q.what, failed, after < calls)
					if !failed {
						continue
					}
					want(t, q.what, toldReport(q.x.Report()), "fault no 92")
					q.heldOut()
					q.counted()
					want(t, q.what, q.round(""), "end yes:  both")
				}
			}
		}
	}
}

// No name is free for a staging place.
func TestP19_4CleanFull(t *testing.T) {
	for v := range 2 {
		caps := api.Caps{}
		caps.Names[v] = 1
		q := paired(t, cappedWorld(t, caps, "f:6=abc", "g:6=abc", nil), 100).counted()
		want(t, "full", q.round(""), "fault no 99")
		q.heldOut()
		q.edit(v, remove([]string{"f", "g"}[v]))
		q.begin("")
		q.ends()
		want(t, "room", q.x.Report().Over, api.OverEnd)
	}
}
