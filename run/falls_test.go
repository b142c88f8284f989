package run

import (
	"fmt"
	"testing"

	"twine/api"
	"twine/rules"
	"twine/world"
)

// This file: where quiet runs lead to, with falls and without.

// goal: A, B and the archive's tree, as texts.
type goal struct{ a, b, o string }

func goalOf(t testing.TB, w *world.World) goal {
	t.Helper()
	x := archiveOf(w)
	if x == nil {
		return goal{o: "no archive"}
	}
	return goal{pictured(w, api.A, false).told(), pictured(w, api.B, false).told(), string(encoded(t, unmarked(t, x), 3))}
}

// sureWorld: all of A and B is sure; half of the time a run has been there, and users behind it.
func sureWorld(t testing.TB, u author) (*world.World, *rules.Rules) {
	t.Helper()
	p := u.plot(t)
	r := u.rules(t)
	w := p.world(t, u)
	if u.rarely(2) {
		runThrough(t, u, New(w, api.MaxNodes), w, r)
		for range 4 {
			v := u.r.Intn(2)
			w.Edit(v, u.edit(w, v))
		}
	}
	for v := range 2 {
		w.Edit(v, settle())
	}
	return w, r
}

// A further quiet run changes nothing, tells the same conflicts and kept directories, and saves the same tree.
func TestP22_7FurtherRun(t *testing.T) {
	t.Parallel()
	for seed := range 300 {
		u := authorOf(seed)
		w, r := sureWorld(t, u)
		x := New(w, api.MaxNodes)
		runThrough(t, u, x, w, r)
		once, report := goalOf(t, w), x.Report()
		runThrough(t, u, x, w, r)
		want(t, fmt.Sprint("world ", seed), goalOf(t, w), once)
		stays := func(l []api.Entry) string {
			var out []api.Entry
			for _, e := range l {
				if e.What == api.Conflict || e.What == api.ModeConflict || e.What == api.Kept {
					out = append(out, e)
				}
			}
			return toldEntries(out)
		}
		want(t, fmt.Sprint("world ", seed), stays(x.Report().Entries), stays(report.Entries))
		for _, e := range x.Report().Entries {
			if e.What == api.Carry || e.What == api.Both && e.Side != 0 || e.How != api.HowNone {
				t.Errorf("world %d: %s", seed, toldReport(x.Report()))
			}
		}
	}
}

// A fall behind each step, with survivors by chance: a further quiet run ends where one without a fall does.
func TestP22_10Falls(t *testing.T) {
	t.Parallel()
	for seed := range 120 {
		u := authorOf(seed)
		w, r := sureWorld(t, u)
		whole := w.Copy()
		runThrough(t, u, New(whole, api.MaxNodes), whole, r)
		wanted := goalOf(t, whole)
		for n, over := 0, false; !over; n++ {
			c := w.Copy()
			x := New(c, api.MaxNodes)
			x.Begin(r)
			for range n {
				x.Do()
			}
			over = x.Status().Phase == api.DidNothing
			c.Fall([3]int{u.r.Intn(12), u.r.Intn(12), u.r.Intn(5)}, [3][]int{{u.r.Intn(700)}, {u.r.Intn(700)}, {u.r.Intn(900)}})
			runThrough(t, u, x, c, r)
			if got := goalOf(t, c); got != wanted {
				t.Errorf("world %d, a fall behind %d steps: %v, want %v", seed, n, got, wanted)
			}
		}
	}
}
