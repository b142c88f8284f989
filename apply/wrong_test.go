package apply

import (
	"fmt"
	"math"
	"strings"
	"testing"

	"twine/api"
	"twine/tree"
	"twine/world"
)

// Items that no plan has: what they answer is free, but each call answers, and they end.
func TestP17_2OtherItems(t *testing.T) {
	trees := []*tree.Tree{nil, treeOf(t, fileOf("", 6, "abc")), treeOf(t, linkOf("", "to")), treeOf(t, dirOf("", 8)), treeOf(t, dirOf("", 5), fileOf("f", 8, "x"))}
	for _, p := range []string{"", "x", "a//b", "/", ".twine", ".twine/1", ".", strings.Repeat("n", 256), strings.Repeat("n/", 80) + "n"} {
		for _, kind := range []int{api.Carry, api.Both, 0, -1, api.Conflict, 99} {
			for _, sides := range [][2]int{{0, 1}, {1, 0}, {0, 0}, {1, 1}, {2, 0}, {0, 2}, {-1, 3}, {math.MinInt, math.MaxInt}} {
				for _, number := range []int{1, math.MaxInt, math.MinInt} {
					for i, src := range trees {
						for k, dst := range trees {
							w := between(t, "x", []api.Thing{fileOf("", 6, "abc")}, []api.Thing{dirOf("", 5)})
							a := New(w, api.Item{Number: number, Path: p, What: kind, From: sides[0], To: sides[1], Mode: kind}, src, dst)
							ends(t, fmt.Sprintf("%q %d %v %d %d", p, kind, sides, i, k), a, w)
						}
					}
				}
			}
		}
	}
}

func ends(t *testing.T, what string, a *Apply, w *world.World) {
	t.Helper()
	for range 20 {
		a.Phase()
		a.Done()
		if did, _ := a.Step(); did == api.DidNothing {
			a.Leave()
			return
		}
	}
	t.Errorf("%s: it doesn't end", what)
}

// Neither side has anything: there is nothing to remove.
func TestP17_3NothingOverNothing(t *testing.T) {
	p := begun(t, between(t, "x", nil, nil), carry(1, "x", api.A))
	dids, e := p.toEnd(t, "nothing over nothing")
	want(t, "steps", dids, "look failed")
	want(t, "error", e, api.ErrWorldNone)
}

// A tree that has one subtree at so many places that nobody can go through them: no call does.
func TestP17_2WideTrees(t *testing.T) {
	x := treeOf(t, dirOf("", 7), fileOf("f", 6, ""))
	for range 60 {
		y := treeOf(t, dirOf("", 7))
		for _, name := range []string{"a", "b"} {
			z, e := y.Put(name, x)
			wantOK(t, "Put", e)
			y = z
		}
		x = y
	}
	w := between(t, "x", nil, []api.Thing{dirOf("", 7), dirOf("a", 7), dirOf("b", 7)})
	a := New(w, carry(1, "x", api.A), nil, x)
	stands(t, "as dst", a, api.DidLook, api.HowNone, 0)
	does(t, "as dst", a, api.DidOvertaken, api.OK, api.DidNothing, api.HowOvertaken, 0)

	a = New(w, carry(1, "x", api.A), x, scanned(t, w, api.B, "x"))
	does(t, "as src", a, api.DidLook, api.OK, api.DidStage, api.HowNone, 0)
	for range 50 {
		does(t, "as src", a, api.DidStage, api.OK, api.DidStage, api.HowNone, 0)
	}
	a.Leave()
	stands(t, "as src", a, api.DidNothing, api.HowLeft, 0)
}

// What is kept: behind the put nothing of src, behind the end nothing but what Done tells.
func TestP17_5LetsGo(t *testing.T) {
	for _, stood := range sorts() {
		w := between(t, "x", sorts()[6].things, stood.things)
		p := begun(t, w, carry(1, "x", api.A))
		a := p.items[0]
		for a.Phase() != api.DidNothing {
			a.Step()
			if a.Done().How == api.HowPut && (a.src != nil || a.dst != nil || a.stage != nil) {
				t.Errorf("%s: behind the put it keeps trees, or a stage", stood.what)
			}
		}
		if a.world != nil || len(a.away) > 0 || a.item != (api.Item{Number: 1}) {
			t.Errorf("%s: behind the end it keeps %+v", stood.what, *a)
		}
	}
}
