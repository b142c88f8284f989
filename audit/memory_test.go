package audit

import (
	"reflect"
	"slices"
	"sync"
	"testing"

	"twine/api"
	"twine/rules"
)

// This file: what is handed in stays as it is, and what is answered is new memory.

const memoryRules = "skip *.o\nprefer a /d/p"

// much: volumes of which each call tells much.
func much(t testing.TB) [3][]api.Thing {
	vols := archived(t,
		"@5 d@7 d/x.o:6=1 d/f:6*1100~3 d/p:6=a e@7 e/l>to g:6=y h:6=1 .twine@7 .twine/1:6=x k@7 k/x.o:6=1 k/f:6=x",
		"@5 d@6 d/f:6*1100 d/p:6=b x.o:6=1 g:6=z h:6=x .twine:6=x",
		"@7 d@7 d/f:6*1100 d/p:6=c g:6=x h:6=x k@7 k/f:6=x")
	vols[api.S] = append(vols[api.S], things(901, "archive.new:6=half")...)
	return vols
}

// roomy: volumes whose lists, and bytes, have room behind them.
func roomy(vols [3][]api.Thing) [3][]api.Thing {
	for v, l := range vols {
		own := slices.Clone(l)
		for i, x := range own {
			own[i].Data = append(slices.Clone(x.Data), "spare"...)[:len(x.Data)]
		}
		vols[v] = append(own, api.Thing{Path: "spare", Kind: 7}, api.Thing{Path: "more", Kind: 8})[:len(l)]
	}
	return vols
}

// whole: all that hangs on volumes, the room behind the lists too.
func whole(vols [3][]api.Thing) [3][]api.Thing {
	for v, l := range vols {
		vols[v] = slices.Clone(l[:cap(l)])
		for i, x := range vols[v] {
			vols[v][i].Data = slices.Clone(x.Data[:cap(x.Data)])
		}
	}
	return vols
}

// scrawl writes over all that was handed in.
func scrawl(vols [3][]api.Thing) {
	for _, l := range vols {
		l = l[:cap(l)]
		for i := range l {
			b := l[i].Data[:cap(l[i].Data)]
			for k := range b {
				b[k] = '!'
			}
			l[i] = api.Thing{Path: "scrawl", Kind: 9}
		}
	}
}

func TestP21_2HandedIn(t *testing.T) {
	r := parsed(t, memoryRules)
	for v := range 3 {
		vols := roomy(much(t))
		before := whole(vols)
		x, held, e := Replica(vols[v], r)
		mustWant(t, "Replica", e, api.OK)
		want(t, "things stay", reflect.DeepEqual(whole(vols), before), true)
		told, paths := toldTree(x), toldPaths(held)
		scrawl(vols)
		want(t, "the tree stays", toldTree(x), told)
		want(t, "what is held stays", toldPaths(held), paths)
	}
}

func TestP21_2NewMemory(t *testing.T) {
	r, l := parsed(t, memoryRules), much(t)[api.A]
	_, one, _ := Replica(l, r)
	_, other, _ := Replica(l, r)
	wanted := slices.Clone(other)
	mustWant(t, "held", toldPaths(one), "/ d k")
	one = one[:cap(one)]
	for i := range one {
		one[i] = "scrawl"
	}
	_ = append(one[:1], "scrawl", "scrawl")
	want(t, "the other one", toldPaths(other), toldPaths(wanted))
	_, again, _ := Replica(l, r)
	want(t, "a later one", toldPaths(again), toldPaths(wanted))
}

func TestP21_3HandedIn(t *testing.T) {
	vols := roomy(much(t))
	before := whole(vols)
	l, e := Faults(vols, parsed(t, memoryRules), 100)
	mustWant(t, "Faults", e, api.OK)
	want(t, "things stay", reflect.DeepEqual(whole(vols), before), true)
	told := toldFaults(l)
	scrawl(vols)
	want(t, "faults stay", toldFaults(l), told)
}

func TestP21_3NewMemory(t *testing.T) {
	r, vols := parsed(t, memoryRules), much(t)
	one, _ := Faults(vols, r, 100)
	other, _ := Faults(vols, r, 100)
	told := toldFaults(other)
	mustWant(t, "faults", len(one) > 5, true)
	one = one[:cap(one)]
	for i := range one {
		one[i] = api.Fault{At: 2, Path: "scrawl"}
	}
	want(t, "the other ones", toldFaults(other), told)
	finds(t, "later ones", vols, r, 100, told)
}

func TestP21_5HandedIn(t *testing.T) {
	vols := roomy(much(t))
	before := whole(vols)
	x, e := After(vols, parsed(t, memoryRules), 100)
	mustWant(t, "After", e, api.OK)
	want(t, "things stay", reflect.DeepEqual(whole(vols), before), true)
	told := toldOutlook(x)
	scrawl(vols)
	want(t, "the outlook stays", toldOutlook(x), told)
}

// spoil writes over a raw tree, the room behind its lists too.
func spoil(n *api.Node) {
	kids := n.Kids[:cap(n.Kids)]
	for i := range kids {
		spoil(&kids[i])
	}
	for i := range kids {
		kids[i] = api.Node{Name: "scrawl"}
	}
	n.Value = api.Value{Kind: 9}
}

// No two lists of one outlook share any memory, and no two outlooks.
func TestP21_5NewMemory(t *testing.T) {
	r, vols := parsed(t, memoryRules), much(t)
	other, _ := After(vols, r, 100)
	told := toldOutlook(other)
	for what, spoils := range map[string]func(x *api.Outlook){
		"A": func(x *api.Outlook) { spoil(&x.A) },
		"B": func(x *api.Outlook) { spoil(&x.B) },
		"O": func(x *api.Outlook) { spoil(&x.O) },
		"entries": func(x *api.Outlook) {
			l := x.Report.Entries[:cap(x.Report.Entries)]
			for i := range l {
				l[i] = api.Entry{Path: "scrawl", What: 1}
			}
		},
	} {
		x, e := After(vols, r, 100)
		mustWant(t, "After", e, api.OK)
		spoils(&x)
		want(t, what+" is spoilt", toldOutlook(x) != told, true)
		switch what {
		case "A":
			x.A = other.A
		case "B":
			x.B = other.B
		case "O":
			x.O = other.O
		default:
			x.Report = other.Report
		}
		want(t, "all but "+what, toldOutlook(x), told)
		want(t, "another one, behind "+what, toldOutlook(other), told)
	}
	again, _ := After(vols, r, 100)
	want(t, "a later one", toldOutlook(again), told)
}

// The lists of one raw tree don't share any memory either: what is appended to one comes to no other.
func TestP21_5SpareRoom(t *testing.T) {
	r, vols := parsed(t, memoryRules), much(t)
	x, _ := After(vols, r, 100)
	told := toldOutlook(x)
	var grow func(n api.Node)
	grow = func(n api.Node) {
		_ = append(n.Kids, api.Node{Name: "scrawl"}, api.Node{Name: "scrawl"})
		for _, k := range n.Kids {
			grow(k)
		}
	}
	grow(x.A)
	grow(x.B)
	grow(x.O)
	_ = append(x.Report.Entries, api.Entry{Path: "scrawl"})
	want(t, "the outlook", toldOutlook(x), told)
}

// Many at once, over the same lists, tell the same; a nil list and an empty one are the same.
func TestP21_5ManyAtOnce(t *testing.T) {
	r, vols := parsed(t, memoryRules), much(t)
	x, _ := After(vols, r, 100)
	l, _ := Faults(vols, r, 100)
	outlook, faults := toldOutlook(x), toldFaults(l)
	var wait sync.WaitGroup
	for range 16 {
		wait.Go(func() {
			for range 20 {
				x, _ := After(vols, r, 100)
				l, _ := Faults(vols, r, 100)
				want(t, "After", toldOutlook(x), outlook)
				want(t, "Faults", toldFaults(l), faults)
			}
		})
	}
	wait.Wait()
	empty := [3][]api.Thing{{}, make([]api.Thing, 0, 5), {}}
	leads(t, "empty lists", empty, rules.None(), 100, "@7", "@7", "@7", " both")
	finds(t, "empty lists", empty, rules.None(), 100, "")
}
