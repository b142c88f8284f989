package run

import (
	"fmt"
	"strings"
	"testing"

	"twine/api"
	"twine/path"
	"twine/world"
)

// This file: users edit while a run goes on. What the guards of a pair say of each step (P22.8, P22.11, P22.12, P22.15) is tried at every moment.

// around: edits at a place, above it and below it.
func around(p string) []api.Edit {
	l := []api.Edit{
		remove(p), newFile(p, "mine"), newLink(p, "mine"), newDir(p), write(p, "mine"), write(p, ""), appendTo(p, "mine"), chmod(p, 1),
		rename(p, "zz"), newFile(joined(p, "zz"), "mine"), newFile(joined(p, "z.o"), "mine"), exchange(p, "yy"),
	}
	if dir, _ := path.Above(p); dir != "" {
		l = append(l, rename(dir, "zz"), chmod(dir, 1))
	}
	return l
}

// stepsOf: how many steps a scene's run takes.
func (s scene) stepsOf(t testing.TB) int {
	q := s.pair(t)
	q.begin(s.rules)
	q.ends()
	return q.steps
}

// Each edit around the place of each item, on its source and on its target, between any two steps.
func TestP22_8EditsAnywhere(t *testing.T) {
	t.Parallel()
	told := map[string]int{}
	for _, s := range scenes() {
		q := s.pair(t)
		q.begin(s.rules)
		q.ends()
		_, plan := q.x.Merge()
		if len(plan.Items) == 0 || len(plan.Items) > 3 {
			continue
		}
		steps := q.steps
		for _, it := range plan.Items {
			for _, e := range around(it.Path) {
				for v := range 2 {
					tryEdit(t, s, v, e, steps, told)
				}
			}
		}
	}
	for _, x := range []string{"overtaken", "put", "sure 221", "end"} {
		if told[x] < 50 {
			t.Errorf("but %d times %s", told[x], x)
		}
	}
}

// tryEdit makes an edit behind each of a scene's steps.
func tryEdit(t *testing.T, s scene, v int, e api.Edit, steps int, told map[string]int) {
	t.Helper()
	for n := range steps {
		q := s.pair(t)
		q.what = fmt.Sprintf("%s: %+v on %d behind %d steps", s.what, e, v, n)
		q.begin(s.rules)
		q.dos(n)
		if n%2 == 0 {
			q.tick()
		}
		if q.tryEdit(v, e) != api.OK {
			continue // nothing of that sort stands there at this moment
		}
		q.ends()
		for x, n := range q.told {
			told[x] += n
		}
	}
}

// What a user writes to a place, at whatever moment, stays there: a run carries it, or tells a conflict, or is overtaken.
func TestP22_8MineStays(t *testing.T) {
	t.Parallel()
	for _, s := range []scene{
		{what: "a new file", a: "f:6=abc"},
		{what: "another file", a: "f:6=abc", b: "f:6=old", o: "f:6=old"},
		{what: "a going", b: "f:6=old", o: "f:6=old"},
		{what: "a directory", a: "f@7 f/x:6=abc"},
		{what: "preferred", a: "f:6=abc", b: "f:6=old", rules: "prefer a f"},
	} {
		hows := map[string]int{}
		for n := range 2 * s.stepsOf(t) {
			q := s.pair(t)
			q.what = fmt.Sprint(s.what, " behind ", n/2)
			q.begin(s.rules)
			q.dos(n / 2)
			if n%2 == 0 {
				q.tick() // else its stamp may be the same as ahead of the edit
			}
			late := q.x.Status().Phase > api.DidScan
			if q.tryEdit(api.B, write("f", "mine")) != api.OK && q.tryEdit(api.B, newFile("f", "mine")) != api.OK {
				continue // the directory is there
			}
			q.ends()
			report := toldEntries(q.x.Report().Entries)
			if s.rules == "" || late {
				want(t, q.what+": "+report, pictured(q.w, api.B, false)["f"].data, "mine")
			}
			hows[report[strings.LastIndexByte(report, ' ')+1:]]++
		}
		for _, how := range []string{"overtaken", "weak"} {
			want(t, s.what+": "+how, hows[how] > 0, how == "overtaken" || s.what == "a new file" || s.what == "another file" || s.what == "preferred")
		}
	}
}

// A source that changes under way: what comes is what was scanned, or nothing comes; never a mixture.
func TestP22_8Source(t *testing.T) {
	t.Parallel()
	s := scene{what: "source", a: "f:6*1500"}
	seen := map[string]int{}
	for n := range s.stepsOf(t) {
		for _, e := range []api.Edit{write("f", strings.Repeat("n", 1500)), write("f", "short"), appendTo("f", "more"), remove("f"), rename("f", "g"), chmod("f", 1)} {
			for _, tick := range []bool{false, true} {
				q := s.pair(t)
				q.what = fmt.Sprintf("%+v behind %d", e.Kind, n)
				q.begin("")
				q.dos(n)
				if tick {
					q.tick()
				}
				q.edit(api.A, e)
				q.ends()
				b := pictured(q.w, api.B, false)
				f, there := b["f"]
				now := pictured(q.w, api.A, false)["f"]
				g := pictured(q.w, api.A, false)["g"]
				if there && f != (spot{api.File, 6, text(1500)}) && f != now && f != g {
					t.Errorf("%s: B has %s", q.what, b.told())
				}
				report := toldEntries(q.x.Report().Entries)
				seen[report[strings.LastIndexByte(report, ' ')+1:]]++
			}
		}
	}
	for _, how := range []string{"put", "overtaken", "weak", "conflict"} {
		if seen[how] == 0 {
			t.Errorf("never %s: %v", how, seen)
		}
	}
}

// The way to the place goes away, or is another one.
func TestP22_8Way(t *testing.T) {
	s := scene{what: "way", a: "d@7 d/f:6=abc", b: "d@7", o: "d@7"}
	for _, l := range [][]api.Edit{
		{rename("d", "e")},
		{remove("d")},
		{remove("d"), newFile("d", "mine")},
		{remove("d"), newLink("d", "mine")},
		{rename("d", "e"), newDir("d")},
	} {
		q := s.pair(t)
		q.begin("")
		q.until(api.DidStage)
		q.edit(api.B, l...)
		want(t, fmt.Sprint(l), toldReply(q.do()), map[bool]string{true: "put#1:d/f", false: "overtaken#1:d/f"}[len(l) == 2 && l[1].Kind == api.EditMkdir])
		q.ends()
		q.round("")
	}
}

// A mode: another one, or no directory, overtakes it.
func TestP22_8Modes(t *testing.T) {
	s := scene{what: "mode", a: "d@5", b: "d@7 d/f:6=x", o: "d@7 d/f:6=x"}
	for _, c := range []struct {
		edit api.Edit
		told string
	}{
		{chmod("d", 3), "overtaken#1:d"},
		{rename("d", "e"), "overtaken#1:d"},
		{exchange("d", "d/f"), ""},
		{write("d/f", "y"), "put#1:d"},
		{newFile("d/g", "y"), "put#1:d"},
		{chmod("", 3), "put#1:d"},
	} {
		q := s.pair(t)
		q.begin("")
		q.until(api.DidPlan)
		if q.tryEdit(api.B, c.edit) != api.OK {
			want(t, "refused", c.told, "")
			continue
		}
		want(t, fmt.Sprint(c.edit), toldReply(q.do()), c.told)
		q.ends()
	}
}

// What the rules let be counts as a thing more: it came behind the scan, and what it lies in isn't taken away.
func TestP22_8LetBe(t *testing.T) {
	for _, s := range []scene{
		{what: "a going", b: "d@7 d/f:6=x", o: "d@7 d/f:6=x", rules: "skip *.o"},
		{what: "a link over a directory", a: "d>to", b: "d@7 d/f:6=x", o: "d@7 d/f:6=x", rules: "skip *.o"},
	} {
		for _, until := range []int{api.DidPlan, api.DidLook} {
			q := s.pair(t)
			q.what = s.what
			q.begin(s.rules)
			q.until(until)
			q.edit(api.B, newFile("d/x.o", "mine"))
			q.until(api.DidOvertaken)
			q.ends()
			want(t, s.what, toldEntries(q.x.Report().Entries), " both, d carry a overtaken")
			holds(t, q.w, api.B, "@7 d@7 d/f:6=x d/x.o:6=mine")
			q.round(s.rules)
			want(t, s.what+": then", strings.Contains(pictured(q.w, api.B, false).told(), "d/x.o:6=mine"), true)
		}
	}
}

// Marks that no scan noted: scans tell what isn't there, and still nothing is overwritten.
func TestP22_8StrangeMarks(t *testing.T) {
	t.Parallel()
	told := map[string]int{}
	for seed := range 300 {
		u := authorOf(seed)
		p := u.plot(t)
		a, b := u.laid(p.a, 11), u.laid(p.b, 101)
		p.s = archiveThing(u.strange(t, a, b))
		w, e := world.New(p.caps, 3, [3][]api.Thing{a, b, p.s})
		mustWant(t, "world.New", e, api.OK)
		q := paired(t, w, p.most).counted()
		q.strange = true
		q.what = fmt.Sprint("world ", seed)
		u.script(q)
		for x, n := range q.told {
			told[x] += n
		}
	}
	if told["overtaken"] < 100 || told["put"] < 100 {
		t.Error(told)
	}
}
