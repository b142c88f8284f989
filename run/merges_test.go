package run

import (
	"fmt"
	"slices"
	"strings"
	"testing"

	"twine/api"
)

// scene: two replicas, an archive, rules; and what a run makes of them.
type scene struct {
	what, a, b, o, rules string
	steps                string // from DidPlan up to the first DidSave, without the two volumes' DidSure
	report               string
	aThen, bThen         string
	archive              string
}

// scenes: one for each kind of cell, and each way in which something is carried. The staging places are there.
func scenes() []scene {
	return []scene{
		{what: "nothing at all", report: " both", aThen: "@7", bThen: "@7", archive: "@7"},
		{what: "agreed", a: "f:6=abc l>to", b: "f:6=abc l>to",
			steps: "sure sure", report: " both, f agreed, l agreed",
			aThen: "@7 f:6=abc l>to", bThen: "@7 f:6=abc l>to", archive: "@7 f:6.3(11,101) l>2"},
		{what: "gone on both sides", o: "f:6=abc d@7 d/g:6=x", report: " both, d agreed, f agreed",
			aThen: "@7", bThen: "@7", archive: "@7"},
		{what: "a file to B", a: "f:6*513", steps: "look#1:f stage#1:f stage#1:f put#1:f sure sure", report: " both, f carry a put",
			aThen: "@7 f:6*513", bThen: "@7 f:6*513", archive: "@7 f:6.513(11,0)"},
		{what: "a file to A", b: "f:6*513", steps: "look#1:f stage#1:f stage#1:f put#1:f sure sure", report: " both, f carry b put",
			aThen: "@7 f:6*513", bThen: "@7 f:6*513", archive: "@7 f:6.513(0,101)"},
		{what: "a file over a file", a: "f:6=new", b: "f:4=", o: "f:4=",
			steps: "look#1:f stage#1:f put#1:f away#1:f sure sure", report: " both, f carry a put",
			aThen: "@7 f:6=new", bThen: "@7 f:6=new", archive: "@7 f:6.3(11,0)"},
		{what: "a file's mode", a: "f:6=x", b: "f:4=x", o: "f:4=x",
			steps: "look#1:f stage#1:f put#1:f away#1:f sure sure", report: " both, f carry a put",
			aThen: "@7 f:6=x", bThen: "@7 f:6=x", archive: "@7 f:6.1(11,0)"},
		{what: "a link to A over a directory", a: "l@7 l/x:6=x", b: "l>to", o: "l@7 l/x:6=x",
			steps: "look#1:l stage#1:l put#1:l away#1:l away#1:l", report: " both, l carry b put",
			aThen: "@7 l>to", bThen: "@7 l>to", archive: "@7 l>2"},
		{what: "a directory to B", a: "d@5 d/e@7 d/f:6=abc d/l>to", steps: "look#1:d stage#1:d stage#1:d stage#1:d stage#1:d put#1:d sure sure",
			report: " both, d carry a put", aThen: "@7 d@5 d/e@7 d/f:6=abc d/l>to", bThen: "@7 d@5 d/e@7 d/f:6=abc d/l>to",
			archive: "@7 d@5 d/e@7 d/f:6.3(13,0) d/l>2"},
		{what: "a directory to A over a link", a: "d>x", b: "d@5 d/f:6=", o: "d>x",
			steps: "look#1:d stage#1:d stage#1:d put#1:d away#1:d sure sure", report: " both, d carry b put",
			aThen: "@7 d@5 d/f:6=", bThen: "@7 d@5 d/f:6=", archive: "@7 d@5 d/f:6.0(0,102)"},
		{what: "the going of a file", b: "f:6=abc", o: "f:6=abc", steps: "look#1:f put#1:f", report: " both, f carry a put",
			aThen: "@7", bThen: "@7", archive: "@7"},
		{what: "the going of an empty directory", a: "d@5", o: "d@5", steps: "look#1:d put#1:d", report: " both, d carry b put",
			aThen: "@7", bThen: "@7", archive: "@7"},
		{what: "the going of a directory", a: "d@5 d/f:6=x d/e@7", o: "d@5 d/f:6=x d/e@7",
			steps: "look#1:d put#1:d away#1:d away#1:d away#1:d", report: " both, d carry b put", aThen: "@7", bThen: "@7", archive: "@7"},
		{what: "conflicts", a: "f:6=abc g:6=new k:6=x", b: "f:6=xy g:6=other k@7", o: "g:6=x k:4=x",
			report: " both, f conflict, g conflict, k conflict", aThen: "@7 f:6=abc g:6=new k:6=x", bThen: "@7 f:6=xy g:6=other k@7", archive: "@7 g:6.1(0,0) k:4.1(0,0)"},
		{what: "preferred", a: "f:6=abc g:6=new", b: "f:6=xy g:6=other", o: "g:6=x", rules: "prefer a f\nprefer b g",
			steps:  "look#1:f stage#1:f put#1:f away#1:f look#2:g stage#2:g put#2:g away#2:g sure sure sure sure",
			report: " both, f carry a put, g carry b put", aThen: "@7 f:6=abc g:6=other", bThen: "@7 f:6=abc g:6=other", archive: "@7 f:6.3(11,0) g:6.5(0,102)"},
		{what: "modes", a: "@7 c@5 d@4 e@3", b: "@5 c@6 d@7 e@5", o: "@7 d@7 e@8",
			steps: "put#1 put#2:d", report: " both b put, c modes, d both a put, e modes",
			aThen: "@5 c@5 d@4 e@3", bThen: "@5 c@6 d@4 e@5", archive: "@5 c@8 d@4 e@8"},
		{what: "modes preferred", a: "@5 c@5", b: "@6 c@6", o: "@7 c@7", rules: "prefer b c", steps: "put#1:c",
			report: " modes, c both b put", aThen: "@5 c@6", bThen: "@6 c@6", archive: "@7 c@6"},
		{what: "kept", a: "d@5 d/x.o:6=mine d/f:6=abc", o: "d@5 d/f:6=abc", rules: "skip *.o",
			steps: "look#1:d/f put#1:d/f", report: " both, d kept a, d/f carry b put", aThen: "@7 d@5 d/x.o:6=mine", bThen: "@7", archive: "@7 d@5"},
		{what: "let be", a: "f.o:6=mine d@7 d/g.o:6=x", b: "f.o:6=other", o: "h.o:6=x", rules: "skip *.o",
			steps: "look#1:d stage#1:d put#1:d", report: " both, d carry a put", aThen: "@7 d@7 d/g.o:6=x f.o:6=mine", bThen: "@7 d@7 f.o:6=other", archive: "@7 d@7"},
		{what: "held", a: "d:6=x", b: "d@7 d/g.o:6=x d/f:6=y", o: "d@7 d/f:6=y", rules: "skip *.o\nprefer a *",
			report: " both, d conflict", aThen: "@7 d:6=x", bThen: "@7 d@7 d/f:6=y d/g.o:6=x", archive: "@7 d@7 d/f:6.1(0,0)"},
		{what: "much at once", a: "@7 a:6=new c@7 c/f:6=1 d:6=both", b: "@5 a:6=old b:6=2 c@7 c/g:6=3 d:6=both", o: "@7 a:6=old c@7 e:6=gone",
			steps:  "put#1 look#2:a stage#2:a put#2:a away#2:a look#3:b stage#3:b put#3:b look#4:c/f stage#4:c/f put#4:c/f look#5:c/g stage#5:c/g put#5:c/g sure sure sure sure sure sure sure sure sure sure",
			report: " both b put, a carry a put, b carry b put, c both, c/f carry a put, c/g carry b put, d agreed, e agreed",
			aThen:  "@5 a:6=new b:6=2 c@7 c/f:6=1 c/g:6=3 d:6=both", bThen: "@5 a:6=new b:6=2 c@7 c/f:6=1 c/g:6=3 d:6=both",
			archive: "@5 a:6.3(12,0) b:6.1(0,103) c@7 c/f:6.1(14,0) c/g:6.1(0,105) d:6.4(15,106)"},
	}
}

func (s scene) pair(t testing.TB) *pair {
	t.Helper()
	q := paired(t, s.world(t), 100).counted()
	q.what = s.what
	return q
}

// A run of each scene, step by step; the worlds, the report and the archive behind it; and a further run that does nothing.
func TestP19_4Merges(t *testing.T) {
	for _, s := range scenes() {
		q := s.pair(t)
		mustWant(t, s.what, q.begin(s.rules), api.OK)
		q.until(api.DidPlan)
		told := q.until(api.DidSave)
		steps := strings.TrimSpace(s.steps + " sure sure save")
		want(t, s.what+": steps", told, steps)
		q.ends()
		want(t, s.what, toldReport(q.x.Report()), "end yes: "+s.report)
		holds(t, q.w, api.A, s.aThen)
		holds(t, q.w, api.B, s.bThen)
		want(t, s.what+": archive", archiveTold(q.w), s.archive)
		want(t, s.what+": staging places", pictured(q.w, api.A, true)[".twine"].kind+pictured(q.w, api.B, true)[".twine"].kind, 2*api.Dir)
		q.heldOut()
		q.begin(s.rules)
		if told := q.ends(); strings.Contains(told, "#") {
			t.Errorf("%s: a further run: %s", s.what, told)
		}
		holds(t, q.w, api.A, s.aThen)
		holds(t, q.w, api.B, s.bThen)
	}
}

// Merge and plan as they are told behind DidPlan, and up to the next Begin.
func TestP19_7Merge(t *testing.T) {
	for _, s := range scenes() {
		q := s.pair(t)
		q.begin(s.rules)
		for r := q.do(); r.Did != api.DidPlan; r = q.do() {
			noMerge(t, s.what, q.x)
		}
		m, p := q.x.Merge()
		var l []string
		for _, it := range p.Items {
			l = append(l, fmt.Sprintf("#%d:%s", it.Number, it.Path))
			want(t, s.what, m.Cells[it.Cell].Path, it.Path)
		}
		for _, x := range l {
			want(t, s.what+": item "+x, strings.Contains(s.steps+" ", strings.TrimSuffix(x, ":")), true)
		}
		var paths []string
		for _, c := range m.Cells {
			paths = append(paths, c.Path)
		}
		q.ends()
		for i, x := range q.x.Report().Entries {
			want(t, s.what, x.Path, paths[i])
		}
		n, o := q.x.Merge()
		if !slices.Equal(m.Cells, n.Cells) || !slices.Equal(p.Items, o.Items) {
			t.Errorf("%s: Merge behind the end", s.what)
		}
	}
}

// Plans that leave something out, so that the new archive has no more nodes than may be.
func TestP19_4LeftOut(t *testing.T) {
	for _, c := range []struct {
		what, a, b, o     string
		most              int
		report, a2, b2, s string
	}{
		{"room for one of two", "c:6=1 d:6=2", "", "", 3, " both, c carry a put, d carry a put", "@7 c:6=1 d:6=2", "@7 c:6=1 d:6=2", "@7 c:6.1(11,0) d:6.1(12,0)"},
		{"from both sides", "c:6=1 d:6=2", "e:6=3 f:6=4", "", 3, " both, c carry a put, d carry a put, e carry b left, f carry b left",
			"@7 c:6=1 d:6=2", "@7 c:6=1 d:6=2 e:6=3 f:6=4", "@7 c:6.1(11,0) d:6.1(12,0)"},
		{"a going makes no room", "", "e:6=3", "f:6=4 g:6=5", 3, " both, e carry b left, f agreed, g agreed", "@7", "@7 e:6=3", "@7"},
		{"what is carried goes first", "c:6=1 y@7 y/f:6=1", "d:6=3 y@7 y/f:6=1", "", 4, " both, c carry a put, d carry b left, y both, y/f agreed",
			"@7 c:6=1 y@7 y/f:6=1", "@7 c:6=1 d:6=3 y@7 y/f:6=1", "@7 c:6.1(11,0) y@7 y/f:6.1(13,103)"},
		{"agreed and left", "c@7 d:6=1", "c@7 d:6=1", "x:6=1 y:6=1", 3, " both, c both left, d agreed left, x agreed, y agreed", "@7 c@7 d:6=1", "@7 c@7 d:6=1", "@7"},
	} {
		q := paired(t, archived(t, c.a+" .twine@7", c.b+" .twine@7", c.o), c.most).counted()
		q.what = c.what
		want(t, c.what, q.round(""), "end yes: "+c.report)
		holds(t, q.w, api.A, c.a2)
		holds(t, q.w, api.B, c.b2)
		want(t, c.what, archiveTold(q.w), c.s)
		_, p := q.x.Merge()
		want(t, c.what+": left", len(p.Left), strings.Count(c.report, "left"))
		q.heldOut()
	}
}

// Every phase with nothing to do takes no step; begin, load, reconcile, the two volumes, save and end always do.
func TestP19_4NothingToDo(t *testing.T) {
	q := paired(t, archived(t, ".twine@7", ".twine@7", "@7"), 1).counted()
	q.begin("")
	want(t, "nothing", q.ends(), "load load scan scan plan sure sure "+saving)
}
