package audit

import (
	"fmt"
	"slices"
	"testing"

	"twine/api"
	"twine/plan"
	"twine/recon"
	"twine/rules"
	"twine/tree"
)

// This file: P21.6 to P21.8, by volumes by chance.

// looked: of a scene both replicas, what they hold, the archive's tree, and what After tells.
type looked struct {
	scene
	a, b, o      *tree.Tree
	heldA, heldB []string
	out          api.Outlook
}

// look looks at a scene; false, if After refuses it.
func look(t testing.TB, s scene) (looked, bool) {
	t.Helper()
	out, e := After(s.vols, s.rules, s.most)
	if e != api.OK {
		return looked{}, false
	}
	x := looked{scene: s, out: out}
	x.a, x.heldA, _ = Replica(s.vols[api.A], s.rules)
	x.b, x.heldB, _ = Replica(s.vols[api.B], s.rules)
	o, e := plainArchive(s.vols[api.S], s.most)
	mustWant(t, "the archive", e, api.OK)
	x.o = recon.Trim(o, s.rules)
	return x, true
}

func (x looked) plan() api.Plan {
	return plan.Of(recon.Merge(x.a, x.b, x.o, [2][]string{}, [2][]string{x.heldA, x.heldB}, x.rules), x.most)
}

func raw(t testing.TB, n api.Node) *tree.Tree {
	t.Helper()
	x, e := tree.Of(n)
	mustWant(t, "an outlook's tree", e, api.OK)
	want(t, "its root's name", n.Name, "")
	return x
}

// scenes goes through scenes by chance that After takes.
func scenes(t *testing.T, n int, see func(what string, u author, x looked)) {
	t.Helper()
	taken := 0
	for seed := range n {
		u := authorOf(seed)
		s := u.scene(t)
		if u.rarely(5) {
			u.odd(t, &s)
		}
		s.most = u.one(6, 9, 12, 15, 100, 100, 100, 100)
		if x, ok := look(t, s); ok {
			see(fmt.Sprint("scene ", seed), u, x)
			taken++
		}
	}
	if taken < n/2 {
		t.Errorf("but %d scenes", taken)
	}
}

func TestP21_6NothingInvented(t *testing.T) {
	t.Parallel()
	moved := 0
	scenes(t, 4000, func(what string, _ author, x looked) {
		items := x.plan().Items
		scanned := [2]*tree.Tree{x.a, x.b}
		for v, n := range [2]api.Node{x.out.A, x.out.B} {
			now := raw(t, n)
			own := scanned[v]
			for p, value := range now.All() {
				a, inA := x.a.At(p)
				b, inB := x.b.At(p)
				if !(inA && a == value) && !(inB && b == value) {
					t.Errorf("%s: volume %d has %s at %q, A %s, B %s", what, v, toldValue(value), p, toldValue(a), toldValue(b))
				}
			}
			about := func(p string) bool {
				return slices.ContainsFunc(items, func(it api.Item) bool {
					return it.To == v && lies(p, it.Path) && (it.What == api.Carry || p == it.Path)
				})
			}
			for _, l := range []*tree.Tree{x.a, x.b, now} {
				for p := range l.All() {
					value, _ := now.At(p)
					was, _ := own.At(p)
					if value != was {
						moved++
					}
					if value != was && !about(p) {
						t.Errorf("%s: volume %d has %s at %q, had %s, and no item is about it", what, v, toldValue(value), p, toldValue(was))
					}
				}
			}
		}
	})
	if moved < 3000 {
		t.Errorf("but %d values moved", moved)
	}
}

func turned(side int) int {
	if side == 0 {
		return 0
	}
	return api.SideA + api.SideB - side
}

func TestP21_7Mirror(t *testing.T) {
	t.Parallel()
	sided := 0
	scenes(t, 4000, func(what string, _ author, x looked) {
		other := x.scene
		other.vols[api.A], other.vols[api.B] = x.vols[api.B], x.vols[api.A]
		other.rules = x.rules.Mirror()
		out, e := After(other.vols, other.rules, other.most)
		want(t, what+": error", e, api.OK)
		exchanged := api.Outlook{A: x.out.B, B: x.out.A, O: x.out.O, Report: x.out.Report}
		exchanged.Report.Entries = slices.Clone(exchanged.Report.Entries)
		for i := range exchanged.Report.Entries {
			y := &exchanged.Report.Entries[i]
			y.Side = turned(y.Side)
			sided += y.Side
		}
		want(t, what, toldOutlook(out), toldOutlook(exchanged))
	})
	if sided < 1000 {
		t.Errorf("but %d sides", sided)
	}
}

// The faults of A and B exchanged; those of S, and errors, the same.
func TestP21_7Faults(t *testing.T) {
	t.Parallel()
	for seed := range 3000 {
		u := authorOf(seed)
		s := u.scene(t)
		u.odd(t, &s)
		if u.rarely(10) {
			v := u.r.Intn(3)
			s.vols[v] = u.twist(s.vols[v])
		}
		what := fmt.Sprint("scene ", seed)
		l, e := Faults(s.vols, s.rules, s.most)
		_, f := After(s.vols, s.rules, s.most)
		s.vols[api.A], s.vols[api.B] = s.vols[api.B], s.vols[api.A]
		m, again := Faults(s.vols, s.rules.Mirror(), s.most)
		for i, x := range l {
			if x.At != api.S {
				l[i].At = 1 - x.At
			}
		}
		want(t, what, toldFaults(m), toldFaults(risen(l)))
		want(t, what+": error", again, e)
		_, again = After(s.vols, s.rules.Mirror(), s.most)
		want(t, what+": After's error", again, f)
	}
}

// settled tells whether all entries are Agreed, or Both without a Side.
func settled(l []api.Entry) bool {
	return !slices.ContainsFunc(l, func(x api.Entry) bool {
		return x.What != api.Agreed && !(x.What == api.Both && x.Side == 0)
	})
}

func TestP21_8SettledStays(t *testing.T) {
	t.Parallel()
	stay := 0
	see := func(what string, _ author, x looked) {
		if !settled(x.out.Report.Entries) {
			return
		}
		stay++
		want(t, what+": A", toldNode(x.out.A), toldTree(x.a))
		want(t, what+": B", toldNode(x.out.B), toldTree(x.b))
	}
	scenes(t, 4000, see)
	for seed := range 500 {
		u := authorOf(seed)
		s := u.alike(t)
		if x, ok := look(t, s); ok {
			see(fmt.Sprint("alike ", seed), u, x)
		}
	}
	if stay < 500 {
		t.Errorf("but %d were settled", stay)
	}
}

// alike: a scene whose replicas are the same; the archive is another one, or none.
func (u author) alike(t testing.TB) scene {
	base := sketch{"": {api.Dir, 7, ""}}
	u.grow(base, 3+u.r.Intn(10))
	a, b := u.laid(base, 1001), u.laid(base, 2001)
	s := scene{rules: u.rules(t), most: 100}
	s.vols = [3][]api.Thing{u.mixed(a), u.mixed(b), nil}
	if !u.rarely(4) {
		s.vols[api.S] = archiveThing(encoded(t, u.remembered(t, u.other(base)), u.one(1, 2, 3)))
	}
	return s
}

// Where A's and B's trees are the same as the archive's, and as each other, nothing is unlike, and all is settled.
func TestP21_8NothingUnlike(t *testing.T) {
	t.Parallel()
	for seed := range 2000 {
		u := authorOf(seed)
		base := sketch{"": {api.Dir, u.one(7, 5), ""}}
		u.grow(base, 3+u.r.Intn(10))
		a, b := u.laid(base, 1001), u.laid(base, 2001)
		o := base.values().tree(t)
		if u.rarely(2) {
			o = u.remembered(t, base) // some modes unknown
		}
		s := scene{rules: u.rules(t), most: 100}
		s.vols = [3][]api.Thing{u.mixed(a), u.mixed(b), archiveThing(encoded(t, o, u.one(1, 2, 3)))}
		what := fmt.Sprint("scene ", seed)
		x, ok := look(t, s)
		mustWant(t, what, ok, true)
		want(t, what+": settled", settled(x.out.Report.Entries), true)
		want(t, what+": A", toldNode(x.out.A), toldTree(x.a))
		want(t, what+": B", toldNode(x.out.B), toldTree(x.b))
		l, e := Faults(s.vols, s.rules, s.most)
		want(t, what+": error", e, api.OK)
		for _, f := range l {
			want(t, what+": "+f.Path, f.Err, api.ErrAuditUnsure)
		}
	}
	vols := archived(t, "@5 d@4 d/f:6=x l>to", "@5 d@4 d/f:6=x l>to", "@5 d@4 d/f:6=x l>to")
	finds(t, "all the same", vols, rules.None(), 100, "")
	leads(t, "all the same", vols, rules.None(), 100, "@5 d@4 d/f:6=x l>to", "@5 d@4 d/f:6=x l>to", "@5 d@4 d/f:6=x l>to", " both, d both, d/f agreed, l agreed")
}
