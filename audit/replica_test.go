package audit

import (
	"fmt"
	"slices"
	"strings"
	"testing"

	"twine/api"
	"twine/rules"
	"twine/scan"
	"twine/world"
)

// This file: P21.2, what a replica is.

func TestP21_2Replica(t *testing.T) {
	for _, c := range []struct{ what, things, rules, tree, held string }{
		{"nothing", "", "", "@7", ""},
		{"the root alone", "@5", "", "@5", ""},
		{"the root of mode 0", "@0", "", "@0", ""},
		{"the root among others", "f:6=abc @3 d@5", "", "@3 d@5 f:6=abc", ""},
		{"no thing for the root", "f:6=abc d@5", "", "@7 d@5 f:6=abc", ""},
		{"each kind, in no order", "d/e/l>../to d/f:0*513 d/e@0 g:7= d@5 a>x", "", "a>x d@5 d/e@0 d/e/l>../to d/f:0*513 g:7=", ""},
		{"unsure bytes count", "f:6=abc~0 g:6*1100~512", "", "f:6=abc g:6*1100", ""},
		{"names that rise as names", "a.b:6=x a@7 a/b:6=y", "", "a@7 a/b:6=y a.b:6=x", ""},

		{"let be at the root", "x.o:6=1 f:6=abc", "skip *.o", "f:6=abc", "/"},
		{"let be deep", "d@5 d/e@5 d/e/x.o:6=1 f:6=abc g@7", "skip *.o", "d@5 d/e@5 f:6=abc g@7", "/ d d/e"},
		{"let be in several", "d@5 d/x.o:6=1 e@5 e/e@5 e/e/x.o>to g@7", "skip *.o", "d@5 e@5 e/e@5 g@7", "/ d e e/e"},
		{"all of a directory", "d@5 d/x.o:6=1 d/y.o@7", "skip *.o", "d@5", "/ d"},
		{"held ones rise as paths", "a.b@7 a.b/x.o:6=1 a@7 a/b@7 a/b/x.o:6=1", "skip *.o", "a@7 a/b@7 a.b@7", "/ a a/b a.b"},
		{"a directory with all below it", "d@5 d/e@5 d/e/f:6=x d/g:6=y", "skip d/e", "d@5 d/g:6=y", "/ d"},
		{"what is let be holds nothing itself", "d@5 d/e@5 d/e/x.o:6=1", "skip *.o\nskip d", "@7", "/"},
		{"below what is let be", "d@5 d/e@5 d/e/f:6=x", "skip d\nskip f", "@7", "/"},
		{"all", "d@5 d/e@5 f:6=x", "skip *", "@7", "/"},
		{"the root is never let be", "@3 d@5", "skip *\nskip **", "@3", "/"},
		{"nothing is let be", "d@5 f:6=x", "skip *.o\nprefer a *", "d@5 f:6=x", ""},
		{"a link isn't gone through", "l>d d@5 d/f:6=x", "skip l/f", "d@5 d/f:6=x l>d", ""},

		{"a staging place", ".twine@7 f:6=x", "", "f:6=x", ""},
		{"with things below it", ".twine@7 .twine/1@5 .twine/1/f:6=x .twine/2>to f:6=x", "", "f:6=x", ""},
		{"a file in its stead", ".twine:6=x f:6=x", "", "f:6=x", ""},
		{"a link in its stead", ".twine>x f:6=x", "", "f:6=x", ""},
		{"its name below another directory", "d@7 d/.twine@5 d/.twine/f:6=x .twine@7", "", "d@7 d/.twine@5 d/.twine/f:6=x", ""},
		{"names like it", ".twin@7 .twines:6=x .twine.o>to .twine@7", "", ".twin@7 .twine.o>to .twines:6=x", ""},
		{"it is never held, and holds nothing", ".twine@7 .twine/x.o:6=1 f:6=x", "skip *.o", "f:6=x", ""},
		{"nor where a rule names it", ".twine@7 .twine/1:6=1 f:6=x", "skip .twine", "f:6=x", ""},
		{"but its name elsewhere does", "d@7 d/.twine@7 d/.twine/1:6=1 .twine@7", "skip .twine", "d@7", "/ d"},
	} {
		told, held := replicaTold(t, things(101, c.things), parsed(t, c.rules))
		want(t, c.what+": tree", told, toldTree(grown(t, c.tree)))
		want(t, c.what+": held", toldPaths(held), c.held)
	}
}

// toldPaths: paths with blanks between; the root is `/`.
func toldPaths(l []string) string {
	var out []string
	for _, p := range l {
		if p == "" {
			p = "/"
		}
		out = append(out, p)
	}
	return strings.Join(out, " ")
}

// Depths of MaxDepth outside the staging place, of MaxWay in it.
func TestP21_2Deep(t *testing.T) {
	l := lone(with(fileThing(names(63)+"/x.o"), func(x *api.Thing) { x.Number = 900 }))
	l = append(l, chain(".twine/"+names(65), 2000)...)
	x, held, e := Replica(l, rules.None())
	mustWant(t, "Replica", e, api.OK)
	want(t, "depth", x.Depth(), 64)
	want(t, "count", x.Count(), 65)
	want(t, "held", len(held), 0)
	x, held, e = Replica(l, parsed(t, "skip *.o"))
	mustWant(t, "Replica", e, api.OK)
	want(t, "depth", x.Depth(), 63)
	want(t, "held", len(held), 64)
	want(t, "the last one", held[63], names(63))
}

// Replica tells what the plain one tells, and what a scan tells of a world that holds these things.
func TestP21_2Scan(t *testing.T) {
	t.Parallel()
	holds := 0
	for seed := range 4000 {
		u := authorOf(seed)
		s := u.scene(t)
		what := fmt.Sprint("scene ", seed)
		w, e := world.New(api.Caps{}, 3, s.vols)
		mustWant(t, what, e, api.OK)
		for v := range 2 {
			told, held := replicaTold(t, s.vols[v], s.rules)
			m, plainHeld := plainReplica(s.vols[v], s.rules)
			want(t, what+": tree", told, toldTree(m.tree(t)))
			want(t, what+": held", toldPaths(held), toldPaths(plainHeld))
			x := scan.New(w, v, s.rules, first())
			x.Run(scan.NewCancel(-1), 1)
			want(t, what+": scan's tree", told, toldTree(valuesOf(x.Tree()).tree(t)))
			want(t, what+": scan's held", toldPaths(held), toldPaths(x.Held()))
			holds += len(held)
		}
	}
	if holds < 1000 {
		t.Errorf("but %d were held", holds)
	}
}

// The order of things is free.
func TestP21_2AnyOrder(t *testing.T) {
	r := parsed(t, "skip *.o")
	l := things(101, "@5 a.b:6=x a@7 a/b:6=y a/x.o:6=1 d@3 d/e@4 d/e/l>to .twine@7 .twine/1:6=z")
	told, held := replicaTold(t, l, r)
	u := authorOf(1)
	for range 200 {
		u.r.Shuffle(len(l), func(i, j int) { l[i], l[j] = l[j], l[i] })
		again, heldAgain := replicaTold(t, l, r)
		mustWant(t, "tree", again, told)
		mustWant(t, "held", slices.Equal(heldAgain, held), true)
	}
}
