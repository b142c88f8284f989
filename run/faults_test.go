package run

import (
	"fmt"
	"strings"
	"testing"

	"twine/api"
)

// This file: calls fail and volumes are full, while nobody edits: P22.9.

// Each call of each volume fails once, and twice, and from there on all.
func TestP22_9EachCall(t *testing.T) {
	t.Parallel()
	told := map[string]int{}
	for _, s := range scenes() {
		for v := range 3 {
			for _, reading := range []bool{true, false} {
				for after := 0; ; after++ {
					q := s.pair(t)
					calls := []int{1, 2, 1 << 20}[after%3]
					q.what = fmt.Sprint(s.what, ": volume ", v, ", call ", after, ", ", calls, reading)
					q.rig(v, after, calls, 300, reading)
					q.begin(s.rules)
					q.ends()
					q.heldOut()
					for x, n := range q.told {
						told[x] += n
					}
					if !failed(q) {
						break
					}
					recovers(t, s, q)
				}
			}
		}
	}
	for _, x := range []string{"fault 92", "failed 92", "away 92", "sure 92", "end"} {
		if told[x] < 10 {
			t.Errorf("but %d times %s", told[x], x)
		}
	}
}

// failed tells whether any call did.
func failed(q *pair) bool {
	for _, s := range q.plain.scans {
		if s == nil || len(s.Lost()) > 0 {
			return true
		}
	}
	for x := range q.told {
		if strings.HasSuffix(x, " 92") {
			return true
		}
	}
	return false
}

// recovers looks that a run behind one that met faults ends as one that met none.
func recovers(t *testing.T, s scene, q *pair) {
	t.Helper()
	q.counted()
	q.round(s.rules)
	for v, then := range []string{s.aThen, s.bThen} {
		if got := pictured(q.w, v, false).told(); got != then {
			t.Errorf("%s: then volume %d: %s, want %s", q.what, v, got, then)
		}
	}
}

// Which step fails by which call, and what it tells.
func TestP19_3FailedSteps(t *testing.T) {
	s := scene{what: "failed", a: "f:6=new", b: "f:6=old", o: "f:6=old"}
	for _, c := range []struct {
		volume, after int
		reading       bool
		until         int
		told, report  string
	}{
		{api.B, 0, true, api.DidPlan, "failed#1:f!92", "failed"},                                                // the look's Stat
		{api.B, 1, true, api.DidPlan, "failed#1:f!92", "failed"},                                                // its Read
		{api.A, 0, true, api.DidLook, "failed#1:f!92", "failed"},                                                // the stage's Stat
		{api.A, 1, true, api.DidLook, "failed#1:f!92", "failed"},                                                // its Read
		{api.B, 0, false, api.DidLook, "failed#1:f!92", "failed"},                                               // Create
		{api.B, 1, false, api.DidLook, "failed#1:f!92", "failed"},                                               // Append
		{api.B, 2, false, api.DidLook, "failed#1:f!92", "failed"},                                               // Sync
		{api.B, 3, false, api.DidLook, "failed#1:f!92", "failed"},                                               // Chmod
		{api.B, 0, true, api.DidStage, "failed#1:f!92", "failed"},                                               // the put's look
		{api.B, 2, true, api.DidStage, "failed#1:f!92", "failed"},                                               // its Stat of the staged file
		{api.B, 0, false, api.DidStage, "failed#1:f!92", "failed"},                                              // Exchange
		{api.B, 0, false, api.DidPut, "away#1:f!92", "put"},                                                     // Remove
		{api.A, 0, false, api.DidAway, "sure!92", "weak"},                                                       // SyncThing
		{api.B, 0, false, api.DidAway, "sure sure!92", "weak"},                                                  // SyncThing
		{api.A, 1, false, api.DidAway, "sure sure fault!92", "put"},                                             // SyncVolume
		{api.B, 1, false, api.DidAway, "sure sure sure fault!92", "put"},                                        // SyncVolume
		{api.S, 0, false, api.DidAway, "sure sure sure sure fault!92", "put"},                                   // Create
		{api.S, 1, false, api.DidAway, "sure sure sure sure save fault!92", "put"},                              // Append
		{api.S, 4, false, api.DidAway, strings.Repeat("sure ", 4) + "save save save save fault!92", "put"},      // Rename
		{api.S, 5, false, api.DidAway, strings.Repeat("sure ", 4) + "save save save save save fault!92", "put"}, // SyncVolume
	} {
		q := s.pair(t)
		q.what = fmt.Sprint(c)
		q.begin("")
		q.until(c.until)
		q.rig(c.volume, c.after, 1, 0, c.reading)
		want(t, q.what, q.dos(len(strings.Fields(c.told))), c.told)
		q.ends()
		want(t, q.what, toldEntries(q.x.Report().Entries), " both, f carry a "+c.report)
		q.heldOut()
	}
}

// Volumes with less room than the run needs: of names, and of bytes. Where there is as much as the plan's Need tells, nothing fails.
func TestP22_9Full(t *testing.T) {
	t.Parallel()
	for _, s := range scenes() {
		q := s.pair(t)
		q.begin(s.rules)
		q.ends()
		_, plan := q.x.Merge()
		for v := range 3 {
			held := roomOf(s.pair(t), v)
			need := api.Room{Names: 2, Bytes: 4096} // of S
			if v < 2 {
				need = plan.Need[v]
			}
			for n := range need.Names + 1 {
				caps := api.Caps{}
				caps.Names[v] = held.Names + n
				if caps.Names[v] > 0 { // 0: no bound
					squeezed(t, s, caps, n == need.Names)
				}
			}
			for _, n := range []int{0, 1, need.Bytes / 2, need.Bytes - 1, need.Bytes} {
				caps := api.Caps{}
				caps.Bytes[v] = held.Bytes + n
				if n >= 0 && caps.Bytes[v] > 0 {
					squeezed(t, s, caps, n == need.Bytes)
				}
			}
		}
	}
}

// roomOf: how much a volume holds.
func roomOf(q *pair, v int) api.Room {
	r := api.Room{Names: -1}
	for _, x := range q.w.Image(v) {
		r.Names++
		if x.Kind == api.File {
			r.Bytes += len(x.Data)
		}
	}
	return r
}

// squeezed: a scene's run with little room.
func squeezed(t *testing.T, s scene, caps api.Caps, fits bool) {
	t.Helper()
	var l []api.Thing
	if s.o != "" {
		l = archiveThing(encoded(t, treeOf(t, s.o), 3))
	}
	q := paired(t, cappedWorld(t, caps, s.a+" .twine@7", s.b+" .twine@7", l), 100).counted()
	q.what = fmt.Sprint(s.what, " ", caps)
	q.begin(s.rules)
	q.ends()
	q.heldOut()
	report := toldReport(q.x.Report())
	if fits {
		want(t, q.what+": "+report, report, "end yes: "+s.report)
	}
	if strings.Contains(report, "failed") {
		want(t, q.what+": Err", q.told["failed 99"] > 0, true)
	}
}
