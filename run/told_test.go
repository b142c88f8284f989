package run

import (
	"fmt"
	"reflect"
	"slices"
	"testing"

	"twine/api"
)

// moment: what a step told, and the Status behind it.
type moment struct {
	reply  api.Reply
	status api.Status
}

func moments(t testing.TB, s scene) ([]moment, api.Plan) {
	q := s.pair(t)
	q.begin(s.rules)
	want(t, s.what+": ahead of the first Do", q.x.Status(), api.Status{Phase: api.DidBegin})
	var l []moment
	for q.x.Status().Phase != api.DidNothing {
		r := q.do()
		l = append(l, moment{r, q.x.Status()})
		want(t, s.what+": asked again", q.x.Status(), l[len(l)-1].status)
	}
	_, p := q.x.Merge()
	return l, p
}

// Status behind each step: what that told; the item that was begun and hasn't ended; how many the plan has, from DidPlan on.
func TestP19_7Status(t *testing.T) {
	for _, s := range append(scenes(), cancelScene()) {
		l, p := moments(t, s)
		items := 0
		for i, x := range l[:len(l)-1] {
			if x.reply.Did == api.DidPlan {
				items = len(p.Items)
			}
			wanted := api.Status{Phase: x.reply.Did, Items: items}
			if l[i+1].reply.Item == x.reply.Item {
				wanted.Item = x.reply.Item
			}
			want(t, fmt.Sprint(s.what, ": behind ", toldReply(x.reply)), x.status, wanted)
		}
		want(t, s.what+": behind the end", l[len(l)-1].status, api.Status{})
	}
}

// What each step tells, and nothing else: items have a number and a path, scans and cleans a path, no other step has any.
func TestP19_3Replies(t *testing.T) {
	for _, s := range append(scenes(), cancelScene()) {
		l, p := moments(t, s)
		for _, x := range l {
			r := x.reply
			wanted := api.Reply{Did: r.Did}
			switch r.Did {
			case api.DidLook, api.DidStage, api.DidPut, api.DidAway:
				if r.Item < 1 || r.Item > len(p.Items) {
					t.Fatalf("%s: %+v", s.what, r)
				}
				wanted.Item, wanted.Path = r.Item, p.Items[r.Item-1].Path
			case api.DidScan, api.DidClean:
				wanted.Path = r.Path
			}
			want(t, s.what, r, wanted)
		}
	}
}

// Overtaken and failed items tell their number and path, the failed one its error; away and make sure tell an error, and go on.
func TestP19_3Errors(t *testing.T) {
	t.Parallel()
	told := map[int]int{}
	for seed := range 300 {
		u := authorOf(seed)
		p := u.plot(t)
		q := paired(t, p.world(t, u), p.most)
		q.begin("")
		for q.x.Status().Phase != api.DidNothing {
			if u.rarely(6) {
				q.rig(u.r.Intn(2), u.r.Intn(3), 1, 0, u.rarely(2))
			}
			if u.rarely(6) {
				q.tryEdit(u.r.Intn(2), u.edit(q.w, u.r.Intn(2)))
			}
			status := q.x.Status()
			r := q.do()
			told[r.Did]++
			_, plan := q.x.Merge()
			switch r.Did {
			case api.DidOvertaken, api.DidFailed:
				want(t, "Err", r.Err != api.OK, r.Did == api.DidFailed)
				want(t, "Path", r.Path, plan.Items[r.Item-1].Path)
				if status.Item != 0 {
					want(t, "Item", r.Item, status.Item)
				}
				want(t, "Status", q.x.Status().Item, 0)
			case api.DidFault, api.DidBad:
				want(t, "all else", r, api.Reply{Did: r.Did, Err: r.Err})
				want(t, "Err", r.Err != api.OK, true)
				want(t, "Report", q.x.Report().Err, r.Err)
			case api.DidSure:
				want(t, "all else", r, api.Reply{Did: r.Did, Err: r.Err})
			case api.DidAway:
			default:
				want(t, "Err", r.Err, api.OK)
			}
		}
	}
	for _, did := range []int{api.DidOvertaken, api.DidFailed, api.DidFault} {
		if told[did] < 5 {
			t.Errorf("but %d times %s", told[did], didName(did))
		}
	}
}

// Report at each moment: the zero one up to the end, then the same one whenever it is asked for.
func TestP19_8Moments(t *testing.T) {
	for _, s := range scenes() {
		q := s.pair(t)
		q.begin(s.rules)
		for q.x.Status().Phase != api.DidNothing {
			if !reflect.DeepEqual(q.x.Report(), api.Report{}) {
				t.Errorf("%s: %s", s.what, toldReport(q.x.Report()))
			}
			q.do()
		}
		for range 2 {
			want(t, s.what, toldReport(q.x.Report()), "end yes: "+s.report)
		}
		q.tick()
		q.edit(api.A, settle())
		q.fall([3]int{}, [3][]int{})
		want(t, s.what+": behind a fall that ended nothing", toldReport(q.x.Report()), "end yes: "+s.report)
	}
}

// spoil writes over a list, and over the spare room behind it.
func spoil[T any](l []T) {
	var zero T
	l = l[:cap(l)]
	for i := range l {
		l[i] = zero
	}
}

// Lists that were handed out are new memory: whatever is done with them, later answers and steps are as they would have been; and no step touches them.
func TestP19_7Memory(t *testing.T) {
	for _, s := range append(scenes(), cancelScene()) {
		q := s.pair(t)
		q.begin(s.rules)
		var kept []string
		var merges []api.Merge
		var plans []api.Plan
		toldMerge := func(m api.Merge, p api.Plan) string { return fmt.Sprint(m, p) }
		for q.x.Status().Phase != api.DidNothing {
			q.do() // it is held against the plain run
			m, p := q.x.Merge()
			merges, plans, kept = append(merges, m), append(plans, p), append(kept, toldMerge(m, p))
			n, o := q.x.Merge()
			spoil(n.Cells)
			spoil(o.Items)
			spoil(o.Left)
		}
		for i := range kept {
			want(t, s.what, toldMerge(merges[i], plans[i]), kept[i])
		}
		for range 2 {
			r := q.x.Report()
			want(t, s.what, toldReport(r), "end yes: "+s.report)
			entries := slices.Clone(r.Entries)
			spoil(r.Entries)
			if !slices.Equal(q.x.Report().Entries, entries) {
				t.Errorf("%s: Report", s.what)
			}
		}
		last, _ := q.x.Merge()
		report := q.x.Report()
		q.round(s.rules)
		want(t, s.what+": behind another run", fmt.Sprint(last), fmt.Sprint(merges[len(merges)-1]))
		want(t, s.what+": behind another run", len(report.Entries), len(last.Cells))
	}
}

// What is left out is a list of its own, too.
func TestP19_7MemoryOfLeft(t *testing.T) {
	q := paired(t, worldOf(t, "c:6=1 d:6=2", "e:6=3 f:6=4", ""), 3).counted()
	q.begin("")
	q.until(api.DidPlan)
	_, p := q.x.Merge()
	want(t, "left", fmt.Sprint(p.Left), "[3 4]")
	spoil(p.Left)
	spoil(p.Items)
	q.ends()
	_, p = q.x.Merge()
	want(t, "left", fmt.Sprint(p.Left), "[3 4]")
	want(t, "report", toldEntries(q.x.Report().Entries), " both, c carry a put, d carry a put, e carry b left, f carry b left")
}
