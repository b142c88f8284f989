package apply

import (
	"fmt"
	"strings"
	"testing"

	"twine/api"
	"twine/world"
)

// Leave ahead of each step, of each sort over each: ahead of the put the item has ended as left, and nothing is done any more; behind it nothing happens.
func TestP17_5LeaveAtEachStep(t *testing.T) {
	for _, comes := range sorts() {
		for _, stood := range sorts() {
			if comes.things == nil && stood.things == nil {
				continue
			}
			w := between(t, "x", comes.things, stood.things)
			leaveEverywhere(t, comes.what+" over "+stood.what, w, carry(5, "x", api.A))
		}
	}
	leaveEverywhere(t, "a mode", modeWorld(t, "d", api.B, 6), both(5, "d", api.B, 5))
}

// leaveEverywhere leaves an item behind each number of its steps.
func leaveEverywhere(t *testing.T, what string, w *world.World, it api.Item) {
	t.Helper()
	for steps := 0; ; steps++ {
		at := fmt.Sprintf("%s, behind %d steps", what, steps)
		p := begun(t, w.Copy(), it)
		p.steps(t, at, steps)
		how, phase := p.items[0].Done().How, p.items[0].Phase()
		before, done := told(p.w), tellsOf(0, p.items[0].Done())
		p.leave(0)
		p.tells(t, at, 0)
		wantText(t, at+": the world", told(p.w), before)
		if how == api.HowPut {
			want(t, at+": Phase", didName(p.items[0].Phase()), didName(phase))
			want(t, at+": Done", tellsOf(0, p.items[0].Done()), done)
			left := len(p.models[0].away)
			dids, e := p.toEnd(t, at)
			want(t, at+": the rest is done", strings.TrimSpace(dids), strings.TrimSpace(times("away", left)))
			want(t, at+": error", e, api.OK)
			want(t, at+": the staging place", staging(p.w, it.To), "")
		} else {
			want(t, at+": How", p.items[0].Done().How, api.HowLeft)
			want(t, at+": Item", p.items[0].Done().Item, 5)
			want(t, at+": files", len(p.items[0].Done().Put), 0)
			want(t, at+": Phase", didName(p.items[0].Phase()), "nothing")
			hasEnded(t, at, p.items[0], p.w)
		}
		if phase == api.DidNothing {
			return
		}
	}
}

// An item that was overtaken, or has failed, isn't left by a Leave behind that.
func TestP17_5LeaveBehindTheEnd(t *testing.T) {
	w, a := exampled(t)
	edits{newFile("f", "x", 6)}.done(t, w, api.B)
	a.Step()
	a.Leave()
	want(t, "overtaken", a.Done().How, api.HowOvertaken)
	w, a = exampled(t)
	w.Rig(api.B, 0, 1, 0, true)
	a.Step()
	a.Leave()
	want(t, "failed", a.Done().How, api.HowFailed)
	_, a = exampled(t)
	a.Leave()
	a.Leave()
	want(t, "left twice", a.Done().How, api.HowLeft)
}

// What was staged stays, where an item is left; another item may come to the place.
func TestP17_5AnotherOneBehindIt(t *testing.T) {
	comes := []api.Thing{dirOf("", 5), fileOf("f", 6, text(600))}
	w := between(t, "x", comes, []api.Thing{fileOf("", 6, "old")})
	p := begun(t, w, carry(1, "x", api.A))
	p.steps(t, "the first one", 4)
	p.leave(0)
	want(t, "what is staged", staging(w, api.B), "1 1.5.0, 1/f 2.6.600")
	q := begun(t, w, carry(2, "x", api.A))
	dids, e := q.toEnd(t, "the second one")
	want(t, "steps", dids, "look stage stage stage put away")
	want(t, "error", e, api.OK)
	want(t, "what is staged", staging(w, api.B), "1 1.5.0, 1/f 2.6.600")
	hasEnded(t, "the first one", p.items[0], w)
}
