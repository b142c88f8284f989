package run

import (
	"fmt"
	"strings"
	"testing"

	"twine/api"
)

// cancelScene: items of each sort: a mode, a file over a file, a going of a directory, a new directory.
func cancelScene() scene {
	return scene{what: "cancel", a: "@5 a:6=new d@7 d/x:6*600", b: "@7 a:6=old b@7 b/y:6=1", o: "@7 a:6=old b@7 b/y:6=1",
		report: " both a put, a carry a put, b carry a put, d carry a put"}
}

// cancelSteps: what a run of the scene tells, if nobody cancels it.
func cancelSteps(t testing.TB) []string {
	q := cancelScene().pair(t)
	q.begin("")
	return strings.Fields(q.ends())
}

func TestP19_6Moments(t *testing.T) {
	want(t, "steps", strings.Join(cancelSteps(t), " "), "load load scan scan:a scan:d scan:d/x scan:d/x scan scan:a scan:b scan:b/y plan "+
		"put#1 look#2:a stage#2:a put#2:a away#2:a look#3:b put#3:b away#3:b away#3:b look#4:d stage#4:d stage#4:d stage#4:d put#4:d "+
		"sure sure sure sure sure sure "+saving)
}

// Ahead of DidPlan: the run is over, and nothing has changed.
func TestP19_6AheadOfThePlan(t *testing.T) {
	for n := range 12 {
		q := cancelScene().pair(t)
		q.what = fmt.Sprint("behind ", n)
		q.begin("")
		q.dos(n)
		want(t, q.what, q.cancel(), api.OK)
		if q.x.Status().Phase != api.DidNothing {
			t.Fatal(q.what, ": it goes on")
		}
		want(t, q.what, toldReport(q.x.Report()), "cancel no")
		noMerge(t, q.what, q.x)
		idle(t, q.what, q)
		holds(t, q.w, api.A, "@5 a:6=new d@7 d/x:6*600")
		holds(t, q.w, api.B, "@7 a:6=old b@7 b/y:6=1")
		want(t, q.what+": then", q.round(""), "end yes:  both a put, a carry a put, b carry a put, d carry a put")
	}
}

// The first one behind DidPlan: what isn't put is left, what is put goes on to its end; then make sure and save.
func TestP19_6Once(t *testing.T) {
	steps := cancelSteps(t)
	for n := 12; n < len(steps); n++ {
		q := cancelScene().pair(t)
		q.what = "behind " + steps[n-1] + fmt.Sprint(" ", n)
		q.begin("")
		q.dos(n)
		before := q.x.Status()
		want(t, q.what, q.cancel(), api.OK)
		status := before
		status.Cancelled = true
		put := put(steps[:n])
		if before.Item > put {
			status.Item = 0 // it isn't put: it has ended
		}
		want(t, q.what+": Status", q.x.Status(), status)
		told := q.ends()
		rest := strings.Fields(told)
		aways := 0
		for ; aways < len(rest) && strings.HasPrefix(rest[aways], "away#"); aways++ {
			want(t, q.what+": goes on", rest[aways], steps[n+aways])
		}
		for _, x := range rest[aways:] {
			if x != "sure" && x != "save" && x != "end" {
				t.Errorf("%s: then %s", q.what, told)
			}
		}
		hows := [4]string{"left", "left", "left", "left"}
		for i := range put {
			hows[i] = "put"
		}
		want(t, q.what, toldReport(q.x.Report()), fmt.Sprintf("end yes:  both a %s, a carry a %s, b carry a %s, d carry a %s", hows[0], hows[1], hows[2], hows[3]))
		want(t, q.what+": then", q.round("")[:len("end yes")], "end yes")
		holds(t, q.w, api.B, "@5 a:6=new d@7 d/x:6*600")
	}
}

// put: how many items told DidPut.
func put(steps []string) int {
	n := 0
	for _, x := range steps {
		if strings.HasPrefix(x, "put#") {
			n++
		}
	}
	return n
}

// A second one at each moment behind a first one at each moment: the run is over; the archive is the old one, or from the Rename on the new one.
func TestP19_6Twice(t *testing.T) {
	t.Parallel()
	steps := cancelSteps(t)
	overs := map[string]int{}
	for n := 12; n < len(steps); n++ {
		for m := 0; ; m++ {
			q := cancelScene().pair(t)
			q.what = fmt.Sprint("behind ", n, " and ", m)
			q.begin("")
			q.dos(n)
			q.cancel()
			told := strings.Fields(q.dos(m))
			if m > 0 && told[m-1] == "end" {
				want(t, q.what, q.x.Cancel(), api.ErrRunNone)
				break
			}
			want(t, q.what, q.cancel(), api.OK)
			idle(t, q.what, q)
			r := q.x.Report()
			saves := strings.Count(strings.Join(steps[:n], " "), "save") + strings.Count(strings.Join(told, " "), "save")
			saved := api.SavedNo
			switch saves {
			case 5:
				saved = api.SavedPerhaps
			case 6:
				saved = api.SavedYes
			}
			want(t, q.what+": Over", r.Over, api.OverCancel)
			want(t, q.what+": Err", r.Err, api.OK)
			want(t, q.what+": Saved", r.Saved, saved)
			archive := q.before[api.S]["archive"].data
			if saved != api.SavedNo {
				archive = string(q.plain.bytes)
			}
			want(t, q.what+": the archive", pictured(q.w, api.S, true)["archive"].data == archive, true)
			puts := strings.Count(toldEntries(r.Entries), "put")
			want(t, q.what+": put", puts, put(steps[:n]))
			want(t, q.what+": left", strings.Count(toldEntries(r.Entries), "left"), 4-puts)
			overs[fmt.Sprint(r.Saved)]++
			q.round("")
			holds(t, q.w, api.B, "@5 a:6=new d@7 d/x:6*600")
		}
	}
	want(t, "saved no, perhaps, yes", overs["0"] > 0 && overs["1"] > 0 && overs["2"] > 0, true)
}

// Weak cells stay weak in the report of a run that is cancelled behind that.
func TestP19_8CancelledWeak(t *testing.T) {
	q := scene{what: "weak", a: "f:6=abc", b: "f:6=abc"}.pair(t)
	q.begin("")
	q.until(api.DidPlan)
	q.tick()
	q.edit(api.A, write("f", "mine"))
	want(t, "make sure", q.dos(1), "sure!221")
	q.cancel()
	q.cancel()
	want(t, "report", toldReport(q.x.Report()), "cancel no:  both, f agreed weak")
}
