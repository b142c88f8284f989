package audit

import (
	"fmt"
	"math"
	"testing"

	"twine/api"
	"twine/rules"
)

// This file: P21.5, what a run would make of three volumes.

func TestP21_5Leads(t *testing.T) {
	for _, c := range []struct{ what, a, b, old, rules, afterA, afterB, o, entries string }{
		{"no archive, both alike", "d@5 d/f:6=x", "d@5 d/f:6=x", "", "", "d@5 d/f:6=x", "d@5 d/f:6=x", "d@5 d/f:6=x", " both, d both, d/f agreed"},
		{"no archive, each has its own", "d@5 d/f:6=x", "e@5 l>to", "", "", "d@5 d/f:6=x e@5 l>to", "d@5 d/f:6=x e@5 l>to", "d@5 d/f:6=x e@5 l>to", " both, d carry a put, e carry b put, l carry b put"},
		{"no archive, both have another one", "f:6=x", "f:6=y", "", "", "f:6=x", "f:6=y", "@7", " both, f conflict"},
		{"changed on A", "f:6=y", "f:6=x", "f:6=x", "", "f:6=y", "f:6=y", "f:6=y", " both, f carry a put"},
		{"changed on B", "f:6=x", "f:6=y", "f:6=x", "", "f:6=y", "f:6=y", "f:6=y", " both, f carry b put"},
		{"changed on both alike", "f:6=y", "f:6=y", "f:6=x", "", "f:6=y", "f:6=y", "f:6=y", " both, f agreed"},
		{"changed on both", "f:6=y", "f:6=z", "f:6=x", "", "f:6=y", "f:6=z", "f:6=x", " both, f conflict"},
		{"unsure bytes count as all others", "f:6=y~0", "f:6=x~0", "f:6=x", "", "f:6=y", "f:6=y", "f:6=y", " both, f carry a put"},
		{"gone on A", "", "d@7 d/f:6=x", "d@7 d/f:6=x", "", "", "", "@7", " both, d carry a put"},
		{"gone on B", "f:6=x", "", "f:6=x", "", "", "", "@7", " both, f carry b put"},
		{"gone on both", "", "", "d@7 d/f:6=x", "", "", "", "@7", " both, d agreed"},
		{"gone and changed", "", "f:6=y", "f:6=x", "", "", "f:6=y", "f:6=x", " both, f conflict"},
		{"a directory for a file", "f@7 f/g:6=x", "f:6=x", "f:6=x", "", "f@7 f/g:6=x", "f@7 f/g:6=x", "f@7 f/g:6=x", " both, f carry a put"},
		{"a file for a directory", "f:6=x", "f@7 f/g:6=x", "f@7 f/g:6=x", "", "f:6=x", "f:6=x", "f:6=x", " both, f carry a put"},
		{"a link for a file", "f:6=x", "f>x", "f:6=x", "", "f>x", "f>x", "f>x", " both, f carry b put"},

		{"a mode alone", "d@5 d/f:6=x", "d@7 d/f:6=x", "d@7 d/f:6=x", "", "d@5 d/f:6=x", "d@5 d/f:6=x", "d@5 d/f:6=x", " both, d both a put, d/f agreed"},
		{"a mode alone, of the root", "@7 f:6=x", "@5 f:6=x", "@7 f:6=x", "", "@5 f:6=x", "@5 f:6=x", "@5 f:6=x", " both b put, f agreed"},
		{"modes both ways, things both ways", "@5 d@7 d/f:6=x", "@7 d@4 d/g:6=x", "@7 d@7", "", "@5 d@4 d/f:6=x d/g:6=x", "@5 d@4 d/f:6=x d/g:6=x", "@5 d@4 d/f:6=x d/g:6=x", " both a put, d both b put, d/f carry a put, d/g carry b put"},
		{"modes that conflict", "d@5 d/f:6=x", "d@4 d/f:6=y", "d@7 d/f:6=x", "", "d@5 d/f:6=y", "d@4 d/f:6=y", "d@7 d/f:6=y", " both, d modes, d/f carry b put"},
		{"modes that conflict, no archive", "@5 d@5", "@4 d@4", "", "", "@5 d@5", "@4 d@4", "@8 d@8", " modes, d modes"},
		{"a file's mode is a part of it", "f:5=x", "f:6=x", "f:6=x", "", "f:5=x", "f:5=x", "f:5=x", " both, f carry a put"},
		{"unknown modes", "f:5=x g:5=x", "f:6=x g:5=x", "@8 f:8=x g:8=x", "", "f:5=x g:5=x", "f:6=x g:5=x", "f:8=x g:5=x", " both, f conflict, g agreed"},
		{"an unknown mode of a directory", "d@5", "d@6", "d@8", "prefer b d", "d@6", "d@6", "d@6", " both, d both b put"},

		{"a rule prefers a", "f:6=y g:6=y", "f:6=z g:6=z", "f:6=x", "prefer a f", "f:6=y g:6=y", "f:6=y g:6=z", "f:6=y", " both, f carry a put, g conflict"},
		{"a rule prefers b", "f:6=y d@5", "f:6=z d@4", "f:6=x d@7", "prefer b *", "d@4 f:6=z", "d@4 f:6=z", "d@4 f:6=z", " both, d both b put, f carry b put"},
		{"a rule that prefers what is gone", "", "f:6=y", "f:6=x", "prefer a f", "", "", "@7", " both, f carry a put"},

		{"let be", "x.o:6=1 f:6=x", "y.o:6=2", "z.o:6=3", "skip *.o", "f:6=x", "f:6=x", "f:6=x", " both, f carry a put"},
		{"let be, as the archive remembers it", "x.o:6=1", "x.o:6=2", "x.o:6=3 d@7 d/x.o:6=4", "skip *.o", "", "", "@7", " both, d agreed"},
		{"a held directory that is gone elsewhere", "d@7 d/x.o:6=1 d/f:6=x", "", "d@7 d/f:6=x", "skip *.o", "d@7", "", "d@7", " both, d kept a, d/f carry b put"},
		{"a held directory, changed, that is gone elsewhere", "", "d@5 d/x.o:6=1 d/f:6=y d/g:6=x", "d@7 d/f:6=x", "skip *.o", "", "d@5 d/f:6=y d/g:6=x", "d@7 d/f:6=x", " both, d kept b, d/f conflict, d/g conflict"},
		{"a held directory over which nothing goes", "d@7 d/x.o:6=1", "d:6=x", "d@7", "skip *.o", "d@7", "d:6=x", "d@7", " both, d conflict"},
		{"whatever a rule prefers", "d@7 d/e@7 d/e/x.o:6=1", "d:6=x", "d@7 d/e@7", "skip *.o\nprefer b *", "d@7 d/e@7", "d:6=x", "d@7 d/e@7", " both, d conflict"},
		{"held, and carried to where nothing is", "d@7 d/x.o:6=1 d/f:6=x", "", "@7", "skip *.o", "d@7 d/f:6=x", "d@7 d/f:6=x", "d@7 d/f:6=x", " both, d carry a put"},
		{"held on both sides", "d@7 d/x.o:6=1 d/f:6=x", "d@7 d/x.o:6=2", "d@7", "skip *.o", "d@7 d/f:6=x", "d@7 d/f:6=x", "d@7 d/f:6=x", " both, d both, d/f carry a put"},

		{"staging places are no replica's", ".twine@7 .twine/1:6=x f:6=x", ".twine:6=y", "", "", "f:6=x", "f:6=x", "f:6=x", " both, f carry a put"},
		{"nor what the archive has there", ".twine@7 .twine/1:6=x", ".twine:6=y", ".twine@7 .twine/1:6=x", "", "", "", "@7", " both, .twine agreed"},
		{"the name elsewhere is one as others", "d@7 d/.twine@7 d/.twine/1:6=x", "d@7", "d@7", "", "d@7 d/.twine@7 d/.twine/1:6=x", "d@7 d/.twine@7 d/.twine/1:6=x", "d@7 d/.twine@7 d/.twine/1:6=x", " both, d both, d/.twine carry a put"},
	} {
		leads(t, c.what, archived(t, c.a, c.b, c.old), parsed(t, c.rules), 100, c.afterA, c.afterB, c.o, c.entries)
	}
}

// The root of a volume that has no thing for it has mode 7.
func TestP21_5NoRoots(t *testing.T) {
	leads(t, "A's is told", volumes("@5", "", ""), rules.None(), 100, "@5", "@7", "@8", " modes")
	leads(t, "and an archive's", archived(t, "@5", "", "@7"), rules.None(), 100, "@5", "@5", "@5", " both a put")
	leads(t, "and an archive's, the other way", archived(t, "@5", "", "@5"), rules.None(), 100, "@7", "@7", "@7", " both b put")
}

// What else stands on S is no matter, and whether the archive's bytes are sure.
func TestP21_5OnS(t *testing.T) {
	vols := archived(t, "f:6=y", "f:6=x", "f:6=x")
	vols[api.S][0].Sure = 3
	vols[api.S] = append(vols[api.S], things(901, "archive.new@7 archive.new/x:6=1 other:6=x .twine:6=x @1")...)
	leads(t, "others on S", vols, rules.None(), 100, "f:6=y", "f:6=y", "f:6=y", " both, f carry a put")
}

// The archive's marks are in no outlook: neither where the archive's subtree stays nor elsewhere.
func TestP21_5NoMarks(t *testing.T) {
	x := grown(t, "c:6=x d@7 d/f:6=x g:6=x h:6=x")
	for version := 1; version <= 3; version++ {
		vols := volumes("c:6=y d:6=y g:6=x h:6=z", "c:6=z d@7 d/f:6=y g:6=x h:6=x", "")
		vols[api.S] = archiveThing(encoded(t, authorOf(version).marked(t, x), version))
		o := "c:6=x d@7 d/f:6=x g:6=x h:6=z"
		if version == 1 {
			o = "c:8=x d@8 d/f:8=x g:6=x h:6=z"
		}
		leads(t, fmt.Sprint("version ", version), vols, rules.None(), 100, "c:6=y d:6=y g:6=x h:6=z", "c:6=z d@7 d/f:6=y g:6=x h:6=z", o, " both, c conflict, d conflict, g agreed, h carry a put")
	}
}

func TestP21_5Errors(t *testing.T) {
	wrong := append(things(101, "a:6=x b:6=x"), with(fileThing("q/r"), func(x *api.Thing) { x.Number = 77 }))
	for v := range 3 {
		for _, s := range []string{"", "archive@7", "archive:7=abc"} {
			vols := volumes("a:6=x b:6=x", "a:6=x b:6=x", s)
			vols[v] = append(wrong[:len(wrong):len(wrong)], vols[v][min(len(vols[v]), 2):]...)
			refuses(t, fmt.Sprint("wrong things on ", v), vols, rules.None(), 1, api.ErrAuditThings)
		}
	}
	for _, s := range []string{"archive@7", "archive>to", "archive@7 archive/x:6=1"} {
		refuses(t, s, volumes("", "", s), rules.None(), 100, api.ErrStoreKind)
		refuses(t, s+", too many nodes", volumes("a:6=x", "", s), rules.None(), 1, api.ErrStoreKind)
	}
	for what, c := range forged(t) {
		vols := volumes("a:6=x b:6=x", "", "archive.new:6=x")
		vols[api.S] = append(vols[api.S], with(archiveThing(c.bytes)[0], func(x *api.Thing) { x.Number = 999 }))
		refuses(t, what, vols, rules.None(), 100, c.err)
		few := c.err
		if few == api.ErrCodecForm || few == api.ErrCodecHash { // the number of nodes comes ahead of these
			few = api.ErrCodecBounds
		}
		refuses(t, what+", too many nodes", vols, parsed(t, "prefer a *"), 2, few)
	}
}

// `most`, for the archive, for each replica, and for the plan.
func TestP21_5Most(t *testing.T) {
	three := "a:6=x b:6=x"
	for _, c := range []struct {
		what, a, b, o string
		most          int
		wanted        api.Errno
	}{
		{"A, one more", three, "", "", 2, api.ErrRunMost},
		{"B, one more", "", three, "", 2, api.ErrRunMost},
		{"both, one more", three, three, "", 2, api.ErrRunMost},
		{"both, just so many", three, three, "", 3, api.OK},
		{"below 1 is 1", "", "", "", 0, api.OK},
		{"far below 1 is 1", "", "", "", math.MinInt, api.OK},
		{"below 1 is 1, a thing", "a:6=x", "", "", 0, api.ErrRunMost},
		{"1, a thing on B", "", "a:6=x", "", 1, api.ErrRunMost},
		{"above MaxNodes", three, three, three, api.MaxNodes + 1, api.OK},
		{"far above MaxNodes", three, three, three, math.MaxInt, api.OK},
		{"the archive, one more", three, three, three + " c:6=x", 3, api.ErrCodecBounds},
		{"the archive, just so many", three, "", three + " c:6=x", 4, api.OK},
		{"the archive and both, one more", three, three, three, 2, api.ErrCodecBounds},
		{"the archive and both, below 1", three, three, three, -1, api.ErrCodecBounds},
		{"the archive alone, below 1", "", "", "@7", -1, api.OK},
	} {
		x, e := After(archived(t, c.a, c.b, c.o), rules.None(), c.most)
		want(t, c.what, e, c.wanted)
		want(t, c.what+": nothing else", isZero(x), c.wanted != api.OK)
	}
	// What is let be, or staged, is no node.
	leads(t, "let be", volumes("x.o:6=1 y.o@7 y.o/f:6=x a:6=x .twine@7 .twine/1:6=x", "x.o:6=2", ""), parsed(t, "skip *.o"), 2, "a:6=x", "a:6=x", "a:6=x", " both, a carry a put")
	refuses(t, "let be, one more", volumes("x.o:6=1 a:6=x b:6=x", "", ""), parsed(t, "skip *.o"), 2, api.ErrRunMost)
}

// Where the new archive could have too many nodes, cells are left out: A, B and O have nothing of them.
func TestP21_5LeftOut(t *testing.T) {
	a, b := "d@7 d/f:6=x f:6=x", "e@7 e/f:6=x g:6=x"
	all := "d@7 d/f:6=x e@7 e/f:6=x f:6=x g:6=x"
	leads(t, "all", volumes(a, b, ""), rules.None(), 7, all, all, all, " both, d carry a put, e carry b put, f carry a put, g carry b put")
	leads(t, "one less", volumes(a, b, ""), rules.None(), 6, "d@7 d/f:6=x e@7 e/f:6=x f:6=x", "d@7 d/f:6=x e@7 e/f:6=x f:6=x g:6=x", "d@7 d/f:6=x e@7 e/f:6=x f:6=x", " both, d carry a put, e carry b put, f carry a put, g carry b left")
	leads(t, "three less", volumes(a, b, ""), rules.None(), 4, a, "d@7 d/f:6=x "+b, "d@7 d/f:6=x", " both, d carry a put, e carry b left, f carry a left, g carry b left")
	leads(t, "agreed ones too", volumes("d@7 d/f:6=x g:6=x", "d@7 d/f:6=x h:6=x", ""), rules.None(), 4, "d@7 d/f:6=x g:6=x", "d@7 d/f:6=x g:6=x h:6=x", "d@7 d/f:6=x g:6=x", " both, d both, d/f agreed, g carry a put, h carry b left")
	leads(t, "a deletion is never left out", archived(t, "a:6=x", "b:6=x g:6=x", "b:6=x"), rules.None(), 3, "a:6=x", "a:6=x g:6=x", "a:6=x", " both, a carry a put, b carry a put, g carry b left")
	leads(t, "a directory that both have, with all in it", archived(t, "d@7 d/f:6=x", "d@7 d/f:6=x", "x:6=1 y:6=1"), rules.None(), 3, "d@7 d/f:6=x", "d@7 d/f:6=x", "@7", " both, d both left, d/f agreed left, x agreed, y agreed")
	leads(t, "a mode is never left out, if the archive has it", archived(t, "d@5 e:6=x", "d@7 f:6=x", "d@7"), rules.None(), 3, "d@5 e:6=x", "d@5 e:6=x f:6=x", "d@5 e:6=x", " both, d both a put, e carry a put, f carry b left")
}

// By chance: what the plain one tells, errors too.
func TestP21_5Plain(t *testing.T) {
	t.Parallel()
	told := map[string]int{}
	for seed := range 5000 {
		u := authorOf(seed)
		s := u.scene(t)
		if u.rarely(2) {
			u.odd(t, &s)
		}
		if u.rarely(20) {
			v := u.r.Intn(3)
			s.vols[v] = u.twist(s.vols[v])
		}
		s.most = u.one(-1, 0, 1, 3, 5, 6, 7, 8, 9, 10, 11, 12, 100, 100, 100, 100, 100, 100, api.MaxNodes+1)
		x, e := After(s.vols, s.rules, s.most)
		y, f := plainAfter(t, s.vols, s.rules, s.most)
		want(t, fmt.Sprint("scene ", seed, ": error"), e, f)
		want(t, fmt.Sprint("scene ", seed), toldOutlook(x), toldOutlook(y))
		if e != api.OK {
			want(t, fmt.Sprint("scene ", seed, ": nothing else"), isZero(x), true)
			told[fmt.Sprint("error ", int(e))]++
		}
		for _, y := range x.Report.Entries {
			y.Path = ""
			told[toldEntries([]api.Entry{y})]++
		}
	}
	for _, s := range []string{
		"error 60", "error 61", "error 62", "error 63", "error 64", "error 65", "error 100", "error 192", "error 210",
		" agreed", " agreed left", " both", " both left", " both a put", " both b put", " carry a put", " carry b put", " carry a left", " carry b left", " conflict", " modes", " kept a", " kept b",
	} {
		if told[s] < 2 {
			t.Errorf("%q was told but %d times", s, told[s])
		}
	}
}

// many: a directory with so many things in it.
func many(n, number int) []api.Thing {
	l := make([]api.Thing, 0, n+1)
	l = append(l, api.Thing{Path: "d", Kind: api.Dir, Mode: 7, Number: number, Stamp: 1})
	for i := range n {
		l = append(l, api.Thing{Path: fmt.Sprintf("d/%x", i), Kind: api.Dir, Mode: 7, Number: number + 1 + i, Stamp: 1})
	}
	return l
}

// MaxNodes is the most, whatever `most` says.
func TestP21_5MaxNodes(t *testing.T) {
	if testing.Short() {
		t.Skip("many things")
	}
	t.Parallel()
	l := many(api.MaxNodes-1, 1)
	refuses(t, "one more than MaxNodes", [3][]api.Thing{api.B: l}, rules.None(), math.MaxInt, api.ErrRunMost)
	x, e := After([3][]api.Thing{l[:len(l)-1]}, rules.None(), api.MaxNodes+1)
	want(t, "just MaxNodes", e, api.OK)
	want(t, "report", toldReport(x.Report), "end yes:  both, d carry a put")
	want(t, "on B", len(x.B.Kids) == 1 && len(x.B.Kids[0].Kids) == api.MaxNodes-2, true)
}
