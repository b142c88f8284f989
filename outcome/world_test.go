package outcome

import (
	"slices"
	"testing"

	"twine/api"
	"twine/apply"
	"twine/plan"
	"twine/recon"
	"twine/rules"
	"twine/scan"
	"twine/tree"
	"twine/world"
)

// field: a world with two replicas, and the archive's tree.
type field struct {
	w *world.World
	o *tree.Tree
	r *rules.Rules
}

func newField(t testing.TB, text string) *field {
	w, e := world.New(api.Caps{}, 1, [3][]api.Thing{})
	if e != api.OK {
		t.Fatal(e)
	}
	for v := range 2 {
		if e := w.Mkdir(v, ".twine"); e != api.OK {
			t.Fatal(e)
		}
	}
	return &field{w, of(t, dir("", 8)), parsed(t, text)}
}

func (f *field) edit(t testing.TB, volume int, l ...api.Edit) {
	t.Helper()
	for _, x := range l {
		if e := f.w.Edit(volume, x); e != api.OK {
			t.Fatal(x, e)
		}
	}
}

// scanned: a volume as a scan tells it, what it holds, and how many files were quick.
func (f *field) scanned(volume int) (*tree.Tree, []string, int) {
	s := scan.New(f.w, volume, f.r, f.o)
	s.Run(scan.NewCancel(-1), 2)
	quick := 0
	for p := range s.Tree().All() {
		if _, is, _ := s.Thing(p); is {
			quick++
		}
	}
	return s.Tree(), s.Held(), quick
}

// round: scans, merge, plan, all items, the new archive; it tells the report, and how many files were quick.
func (f *field) round(t testing.TB) ([]api.Entry, [2]int) {
	t.Helper()
	f.w.Tick()
	a, heldA, quickA := f.scanned(api.A)
	b, heldB, quickB := f.scanned(api.B)
	o := recon.Trim(f.o, f.r)
	m := recon.Merge(a, b, o, lists{}, lists{heldA, heldB}, f.r)
	p := plan.Of(m, api.MaxNodes)
	var done []api.Done
	for _, it := range p.Items {
		src, _ := []*tree.Tree{a, b}[it.From].Sub(it.Path)
		dst, _ := []*tree.Tree{a, b}[it.To].Sub(it.Path)
		x := apply.New(f.w, it, src, dst)
		for x.Phase() != api.DidNothing {
			x.Step()
		}
		done = append(done, x.Done())
	}
	hows := Hows(m, p, done)
	f.o = Archive(a, b, o, m, hows)
	return Report(m, hows), [2]int{quickA, quickB}
}

func (f *field) wantArchive(t *testing.T, what, text string) {
	t.Helper()
	all := flat(f.o.Node())
	for p, v := range all {
		v.marks = [2]api.Mark{}
		all[p] = v
	}
	if got := all.told(); got != text {
		t.Errorf("%s: %s, want %s", what, got, text)
	}
}

func settled(l []api.Entry) bool {
	for _, x := range l {
		if x.What != api.Agreed && x.What != api.Both || x.Side != 0 || x.How != api.HowNone {
			return false
		}
	}
	return true
}

func newFile(p, text string) api.Edit {
	return api.Edit{Kind: api.EditFile, Path: p, Data: []byte(text), Mode: 6}
}

func newDir(p string, mode int) api.Edit {
	return api.Edit{Kind: api.EditMkdir, Path: p, Mode: mode}
}

// Rounds over a world: what was carried and agreed is settled, conflicts come again, and marks that were noted are trusted.
func TestP18_4World(t *testing.T) {
	f := newField(t, "skip *.o")
	f.edit(t, api.A, newDir("d", 5), newFile("d/f", "abc"), newFile("same", "x"), newFile("mine", "a"))
	f.edit(t, api.B, newFile("same", "x"), newFile("mine", "bb"), api.Edit{Kind: api.EditLink, Path: "l", To: "there"})
	report, _ := f.round(t)
	f.wantArchive(t, "first", "/7 d/5 d/f:6.3(0,0) l>5 same:6.1(0,0)")
	conflict := entry("mine", api.Conflict, 0, api.HowNone)
	if len(report) != 5 || report[3] != conflict || report[1] != entry("d", api.Carry, api.SideA, api.HowPut) {
		t.Error(report)
	}
	report, quick := f.round(t)
	f.wantArchive(t, "again", "/7 d/5 d/f:6.3(0,0) l>5 same:6.1(0,0)")
	if len(report) != 6 || report[4] != conflict || !settled(report[:4]) || quick != [2]int{2, 1} {
		t.Error(report, quick)
	}
	f.edit(t, api.B, api.Edit{Kind: api.EditRemove, Path: "mine"}, newFile("d/x.o", "let be"), api.Edit{Kind: api.EditChmod, Path: "d", Mode: 3})
	f.edit(t, api.A, api.Edit{Kind: api.EditRemove, Path: "d/f"}, api.Edit{Kind: api.EditWrite, Path: "same", Data: []byte("yy")})
	report, _ = f.round(t)
	f.wantArchive(t, "edited", "/7 d/3 l>5 mine:6.1(0,0) same:6.2(0,0)")
	if len(report) != 6 || report[1] != entry("d", api.Both, api.SideB, api.HowPut) || report[2] != entry("d/f", api.Carry, api.SideA, api.HowPut) {
		t.Error(report)
	}
	f.edit(t, api.A, api.Edit{Kind: api.EditRemove, Path: "d"})
	report, _ = f.round(t)
	f.wantArchive(t, "kept", "/7 d/3 l>5 mine:6.1(0,0) same:6.2(0,0)")
	if report[1] != entry("d", api.Kept, api.SideB, api.HowNone) || !settled(slices.Delete(report, 1, 2)) {
		t.Error(report)
	}
}
