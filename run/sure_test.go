package run

import (
	"fmt"
	"slices"
	"strings"
	"testing"

	"twine/api"
	"twine/world"
)

// sureOf: of a volume the paths whose bytes are all sure, of those that have any.
func sureOf(w *world.World, v int) string {
	var l []string
	for _, x := range w.Image(v) {
		if x.Kind == api.File && len(x.Data) > 0 && x.Sure == len(x.Data) {
			l = append(l, x.Path)
		}
	}
	return strings.Join(l, " ")
}

// unsureWorld: files whose bytes aren't sure, with numbers that rise otherwise than their paths. Both sides agree on b, c, d/e; f goes to B, g to A, h is a conflict, i goes away, j is let be.
func unsureWorld(t testing.TB) *world.World {
	t.Helper()
	lines := [2]string{"b:6=1 c:6=2 d@7 d/e:6=3 f:6=4 h:6=x j:6=y", "b:6=1 c:6=2 d@7 d/e:6=3 g:6=5 h:6=z i:6=6"}
	numbers := map[string]int{"b": 50, "c": 20, "d": 5, "d/e": 70, "f": 10, "g": 60, "h": 30, "i": 80, "j": 90}
	var all [3][]api.Thing
	for v, line := range lines {
		for _, x := range things(1, line) {
			x.Sure = 0
			x.Number = numbers[x.Path] + v*100
			if v == api.B && x.Path == "c" {
				x.Number = 190 // on B the other way round
			}
			all[v] = append(all[v], x)
		}
		all[v] = append(all[v], things(1000+v, ".twine@7")...)
	}
	all[api.S] = archiveThing(encoded(t, treeOf(t, "i:6=6"), 3))
	w, e := world.New(api.Caps{}, 3, all)
	mustWant(t, "world.New", e, api.OK)
	return w
}

// Which files are made sure, and in which order: A's rising by number, then B's; what was put by the number that it has there. What is a conflict, goes away or is let be isn't touched.
func TestP19_5Order(t *testing.T) {
	q := paired(t, unsureWorld(t), 100).counted()
	q.begin("skip j")
	q.until(api.DidPlan)
	q.until(api.DidStage) // of f
	for q.x.Status().Item != 0 || q.x.Status().Phase != api.DidPut {
		q.do()
	}
	for !strings.Contains(sureOf(q.w, api.A), "g") || pictured(q.w, api.B, false)["i"].kind != 0 {
		q.do() // up to the last put
	}
	want(t, "put files are sure already: A", sureOf(q.w, api.A), "g")
	want(t, "B", sureOf(q.w, api.B), "f")
	before := [2]string{"g", "f"}
	var order []string
	for {
		r := q.do()
		now := [2]string{sureOf(q.w, api.A), sureOf(q.w, api.B)}
		order = append(order, toldReply(r)+come(before, now))
		before = now
		if r.Did == api.DidSave {
			break
		}
	}
	// On A: f 10, c 20, b 50, d/e 70, and g, put and sure. On B: b 150, g 160, d/e 170, c 190, and f.
	want(t, "order", strings.Join(order, ", "), "sure f, sure c, sure b, sure d/e, sure, sure b, sure g, sure d/e, sure c, sure, sure, sure, save")
	q.ends()
	want(t, "report", toldReport(q.x.Report()), "end yes:  both, b agreed, c agreed, d both, d/e agreed, f carry a put, g carry b put, h conflict, i carry a put")
	want(t, "never touched", strings.Contains(sureOf(q.w, api.A)+sureOf(q.w, api.B), "h"), false)
	want(t, "let be", strings.Contains(sureOf(q.w, api.A), "j"), false)
}

// come: the paths that are sure since.
func come(before, now [2]string) string {
	s := ""
	for v := range 2 {
		for _, p := range strings.Fields(now[v]) {
			if !slices.Contains(strings.Fields(before[v]), p) {
				s += " " + p
			}
		}
	}
	return s
}

// Files that a scan took by their marks aren't made sure again, on the side where they were quick.
func TestP19_5Quick(t *testing.T) {
	q := paired(t, worldOf(t, "f:6=abc g:6=x .twine@7", "f:6=abc .twine@7", ""), 100).counted()
	q.begin("")
	want(t, "first", strings.Count(q.ends(), "sure"), 4+2) // f and g on A and B
	want(t, "marks", archiveTold(q.w), "@7 f:6.3(11,101) g:6.1(12,0)")
	q.begin("")
	want(t, "f and g quick on A, f on B", strings.Count(q.ends(), "sure"), 1+2)
	want(t, "no mark: its stamp was the clock", archiveTold(q.w), "@7 f:6.3(11,101) g:6.1(12,0)")
	q.tick()
	q.begin("")
	want(t, "g on B again", strings.Count(q.ends(), "sure"), 1+2)
	q.begin("")
	want(t, "all quick", q.ends(), "load load scan scan:f scan:g scan scan:f scan:g plan sure sure "+saving)
	q.edit(api.B, rename("f", "h"))
	q.begin("")
	told := q.ends()
	want(t, "f goes, h comes: A has it anew, B's has no mark at its new place", strings.Count(told, "sure"), 2+2)
	want(t, "the archive", archiveTold(q.w)[:len("@7 g:6.1(12,")], "@7 g:6.1(12,")
	q.edit(api.A, chmod("g", 4))
	q.begin("")
	q.until(api.DidPut)
	want(t, "g from A, read; to B, put; h on A", q.until(api.DidSave), "away#1:g sure sure sure sure sure save")
}

// A file that is gone, or has another stamp: its cell is weak, and keeps what the old archive has.
func TestP19_5Weak(t *testing.T) {
	base := "@7 d@7 d/e:6.1(0,0) d/g:6.1(0,0) f:6.3(0,0)"
	for _, c := range []struct {
		what    string
		volume  int
		edits   []api.Edit
		tick    bool
		told    string
		report  string
		archive string
	}{
		{"nothing", api.A, nil, true, "sure sure sure sure", "d carry a put, f agreed", "@7 d:6.3(11,0) f:6.3(12,101)"},
		{"A's f written", api.A, []api.Edit{write("f", "mine")}, true, "sure sure!221 sure sure", "d carry a put, f agreed weak", "@7 d:6.3(11,0) f:6.3(0,0)"},
		{"at the same time", api.A, []api.Edit{write("f", "mine")}, false, "sure sure!221 sure sure", "d carry a put, f agreed weak", "@7 d:6.3(11,0) f:6.3(0,0)"},
		{"B's f chmodded", api.B, []api.Edit{chmod("f", 6)}, true, "sure sure sure!221 sure", "d carry a put, f agreed weak", "@7 d:6.3(11,0) f:6.3(0,0)"},
		{"B's f gone", api.B, []api.Edit{remove("f")}, true, "sure sure sure!221 sure", "d carry a put, f agreed weak", "@7 d:6.3(11,0) f:6.3(0,0)"},
		{"A's f moved", api.A, []api.Edit{rename("f", "elsewhere")}, true, "sure sure sure sure", "d carry a put, f agreed", "@7 d:6.3(11,0) f:6.3(12,101)"},
		{"A's d gone", api.A, []api.Edit{remove("d")}, true, "sure!221 sure sure sure", "d carry a weak, f agreed", "@7 d@7 d/e:6.1(0,0) d/g:6.1(0,0) f:6.3(12,101)"},
		{"B's d written", api.B, []api.Edit{write("d", "mine")}, true, "sure sure sure sure!221", "d carry a weak, f agreed", "@7 d@7 d/e:6.1(0,0) d/g:6.1(0,0) f:6.3(12,101)"},
		{"B's d written at the same time", api.B, []api.Edit{write("d", "mine")}, false, "sure sure sure sure", "d carry a put, f agreed", "@7 d:6.3(11,0) f:6.3(12,101)"},
		{"all", api.A, []api.Edit{remove("f"), remove("d")}, true, "sure!221 sure!221 sure sure", "d carry a weak, f agreed weak", base},
	} {
		q := paired(t, archived(t, "d:6=new f:6=abc .twine@7", "f:6=abc d@7 d/e:6=1 d/g:6=2 .twine@7", "d@7 d/e:6=1 d/g:6=2 f:6=abc"), 100).counted()
		q.what = c.what
		q.begin("")
		q.until(api.DidPut)
		q.dos(3) // away
		if c.tick {
			q.tick()
		}
		q.edit(c.volume, c.edits...)
		want(t, c.what, q.dos(4), c.told)
		want(t, c.what, q.ends(), "sure sure "+saving)
		want(t, c.what, toldReport(q.x.Report()), "end yes:  both, "+c.report)
		want(t, c.what+": archive", archiveTold(q.w), c.archive)
	}
}

// Of a cell with several files one is enough; the others are made sure all the same.
func TestP19_5WeakOfSeveral(t *testing.T) {
	for n, p := range []string{"d/a", "d/b", "d/c"} {
		for v := range 2 {
			q := paired(t, worldOf(t, "d@7 d/a:6=1 d/b:6=2 d/c:6=3 .twine@7", ".twine@7", ""), 100).counted()
			q.what = fmt.Sprint(p, " on ", v)
			q.begin("")
			q.until(api.DidPut)
			q.tick()
			q.edit(v, appendTo(p, "more"))
			l := []string{"sure", "sure", "sure", "sure", "sure", "sure"}
			l[3*v+n] += "!221"
			want(t, q.what, q.dos(6), strings.Join(l, " "))
			q.ends()
			want(t, q.what, toldReport(q.x.Report()), "end yes:  both, d carry a weak")
			want(t, q.what, archiveTold(q.w), "@7")
		}
	}
}

// A file that came under two names into a scan is made sure under both; if it changed between, the first one's stamp is another.
func TestP19_5Twice(t *testing.T) {
	for _, change := range []bool{false, true} {
		q := paired(t, worldOf(t, "a:6=1 z:6=2 .twine@7", ".twine@7", ""), 100).counted()
		q.begin("")
		want(t, "a is scanned", q.dos(4), "load load scan scan:a")
		q.edit(api.A, rename("a", "z"))
		if change {
			q.tick()
			q.edit(api.A, write("z", "3"))
		}
		q.until(api.DidPlan)
		q.until(api.DidOvertaken) // a isn't there any more
		q.until(api.DidPut)
		want(t, "z alone", q.until(api.DidSave), "sure sure sure sure save")
		q.ends()
		want(t, "report", toldReport(q.x.Report()), "end yes:  both, a carry a overtaken, z carry a put")
	}
	// Agreed under both names: two steps for one number.
	for _, change := range []bool{false, true} {
		q := paired(t, worldOf(t, "a:6=1 z:6=2 .twine@7", "a:6=1 z:6=1 .twine@7", ""), 100).counted()
		q.begin("")
		q.dos(4)
		q.edit(api.A, rename("a", "z"))
		if change {
			q.tick()
			q.edit(api.A, chmod("z", 6))
		}
		q.until(api.DidPlan)
		told := "sure sure sure sure save"
		report := "end yes:  both, a agreed, z agreed"
		if change {
			told, report = "sure!221 sure sure sure save", "end yes:  both, a agreed weak, z agreed"
		}
		want(t, "A's two, B's two", q.dos(2)+" "+q.dos(2)+" save", told)
		q.ends()
		want(t, "report", toldReport(q.x.Report()), report)
	}
}

// The last two steps ahead of the save sync the volumes, A's first; what they make sure is there behind a fall.
func TestP19_4Volumes(t *testing.T) {
	q := paired(t, worldOf(t, "f:6=abc .twine@7", ".twine@7", ""), 100).counted()
	q.edit(api.A, newFile("g", "x"))
	q.begin("")
	q.until(api.DidSure)
	q.dos(3)
	fallen := func(v int) string { return pictured(q.w.After([3]int{}, [3][]int{}), v, false).told() }
	want(t, "A ahead", fallen(api.A), "@7 f:6=abc")
	want(t, "B ahead", fallen(api.B), "@7")
	want(t, "A's", q.dos(1), "sure")
	want(t, "A behind its", fallen(api.A), "@7 f:6=abc g:6=x")
	want(t, "B ahead of its", fallen(api.B), "@7")
	want(t, "B's", q.dos(1), "sure")
	want(t, "B behind its", fallen(api.B), "@7 f:6=abc g:6=x")
	want(t, "then", q.ends(), saving)
}
