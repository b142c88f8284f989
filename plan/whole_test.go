package plan

import (
	"fmt"
	"math/big"
	"slices"
	"testing"

	"twine/api"
	"twine/recon"
	"twine/rules"
	"twine/tree"
)

// Of all small merges, with every most about them, the plan is the one that the chapter's words tell.
func TestP15_2AllSmall(t *testing.T) {
	var cells []api.Cell
	for _, what := range []int{api.Agreed, api.Both, api.Carry, api.Conflict, api.ModeConflict, api.Kept, 0} {
		for _, n := range [][2]int{{0, 2}, {2, 0}, {1, 1}, {1, 2}} {
			cells = append(cells, api.Cell{What: what, Side: api.SideA, Mode: 3, Keep: n[0], Take: n[1], Names: n[1], Had: api.Room{Names: n[0]}})
		}
	}
	for _, a := range cells {
		for _, b := range cells {
			b.Side = api.SideB
			for _, c := range cells {
				for most := range 7 {
					wantPlan(t, merge(a, b, c), most)
				}
			}
		}
	}
}

// tried: a merge and a most.
type tried struct {
	merge api.Merge
	most  int
}

// some: merges made by chance, tame ones and wild ones.
func some(seed int64, n int) []tried {
	a := newAuthor(seed)
	var l []tried
	for i := range n {
		m := a.merge(1+i%12, i%3 == 0)
		l = append(l, tried{m, a.most(m)})
	}
	return l
}

func TestP15_4ByChance(t *testing.T) {
	left, items := 0, 0
	for _, c := range some(1, 40000) {
		wantPlan(t, c.merge, c.most)
		p := Of(c.merge, c.most)
		left += len(p.Left)
		items += len(p.Items)
	}
	if left < 10000 || items < 10000 {
		t.Errorf("%d are left out, %d done", left, items)
	}
}

func TestP15_5InBounds(t *testing.T) {
	stay, over := 0, 0
	for _, c := range some(5, 20000) {
		cells, left := c.merge.Cells, Of(c.merge, c.most).Left
		if !above(cells, left, c.most) {
			stay++
			continue
		}
		over++
		if plainNext(cells, left) >= 0 {
			t.Fatalf("most %d, %+v: left %v, more could be", c.most, cells, left)
		}
	}
	if stay < 1000 || over < 1000 {
		t.Errorf("%d stay in bounds, %d don't", stay, over)
	}
}

// Whatever fails: each cell keeps or takes, one that is left out keeps.
func TestP15_5WhateverFails(t *testing.T) {
	a := newAuthor(55)
	for _, c := range some(56, 5000) {
		cells, p := c.merge.Cells, Of(c.merge, c.most)
		worst := plainWorst(cells, p.Left)
		for range 8 {
			sum := new(big.Int)
			for i, cell := range cells {
				n := max(cell.Keep, 0)
				if !slices.Contains(p.Left, i) && a.Intn(2) == 0 {
					n = max(cell.Take, 0)
				}
				sum.Add(sum, big.NewInt(int64(n)))
			}
			if sum.Cmp(worst) > 0 {
				t.Fatalf("most %d, %+v: %v, the worst is %v", c.most, cells, sum, worst)
			}
		}
		for _, item := range p.Items {
			if slices.Contains(p.Left, item.Cell) {
				t.Fatalf("%s: one that is left out is done", told(p))
			}
		}
	}
}

// lastLeft: the place of the one that was left out last.
func lastLeft(cells []api.Cell, left []int) int {
	last := -1
	for _, i := range slices.Backward(left) {
		if last < 0 || sortNumber(cells[i]) >= sortNumber(cells[last]) {
			last = i
		}
	}
	return last
}

func TestP15_6NoMoreThanMust(t *testing.T) {
	for _, c := range some(6, 20000) {
		cells, left := c.merge.Cells, Of(c.merge, c.most).Left
		last := lastLeft(cells, left)
		if last < 0 {
			continue
		}
		less := slices.DeleteFunc(slices.Clone(left), func(i int) bool { return i == last })
		if !above(cells, less, c.most) {
			t.Fatalf("most %d, %+v: left %v, %d in vain", c.most, cells, left, last)
		}
	}
}

// Of a sort those that are left out are the last ones; the second sort's only behind all of the first.
func TestP15_6TheLastOnes(t *testing.T) {
	for _, c := range some(66, 20000) {
		left := Of(c.merge, c.most).Left
		if !slices.IsSorted(left) || len(slices.Compact(slices.Clone(left))) != len(left) {
			t.Fatalf("left %v", left)
		}
		var kept, out [3]int
		for i, cell := range c.merge.Cells {
			sort := sortNumber(cell)
			switch {
			case !slices.Contains(left, i):
				kept[sort]++
				if out[sort] > 0 && sort > 0 {
					t.Fatalf("%+v: left %v, one of the sort stays behind them", c.merge.Cells, left)
				}
			default:
				out[sort]++
			}
		}
		if out[0] > 0 || out[2] > 0 && kept[1] > 0 {
			t.Fatalf("%+v: left %v", c.merge.Cells, left)
		}
	}
}

// exchanged: a plan with the volumes exchanged.
func exchanged(p api.Plan) api.Plan {
	items := slices.Clone(p.Items)
	for i := range items {
		items[i].From, items[i].To = items[i].To, items[i].From
	}
	return api.Plan{Items: items, Left: p.Left, Need: [2]api.Room{p.Need[1], p.Need[0]}}
}

func TestP15_7Exchanged(t *testing.T) {
	for _, c := range append(some(7, 20000), tried{first(), 12}, tried{first(), 8}, tried{first(), 1}) {
		got, want := Of(mirrored(c.merge), c.most), exchanged(Of(c.merge, c.most))
		if !samePlan(got, want) {
			t.Fatalf("%s, want %s", told(got), told(want))
		}
	}
}

// replica makes a tree by chance: some files and directories, two levels of them.
func (a author) replica(level int) []api.Node {
	var kids []api.Node
	for i := range 4 {
		n := api.Node{Name: fmt.Sprintf("n%d", i)}
		switch a.Intn(4) {
		case 0:
			continue
		case 1:
			n.Value = api.Value{Kind: api.Dir, Mode: 6 + a.Intn(2)}
			if level > 0 {
				n.Kids = a.replica(level - 1)
			}
		default:
			n.Value = api.Value{Kind: api.File, Mode: 7, Size: a.Intn(3)}
		}
		kids = append(kids, n)
	}
	return kids
}

func (a author) tree(t *testing.T) *tree.Tree {
	x, e := tree.Of(api.Node{Value: api.Value{Kind: api.Dir, Mode: 7}, Kids: a.replica(2)})
	if e != api.OK {
		t.Fatal(e)
	}
	return x
}

// What a reconciling tells: if the archive that is there is in bounds, so is the new one, whatever fails.
func TestP15_5Reconciled(t *testing.T) {
	a := newAuthor(57)
	left := 0
	for range 3000 {
		x, y, o := a.tree(t), a.tree(t), a.tree(t)
		m := recon.Merge(x, y, o, [2][]string{}, [2][]string{}, rules.None())
		for _, most := range []int{o.Count(), o.Count() + 1, o.Count() + 5, o.Count() + a.Intn(20), api.MaxNodes} {
			wantPlan(t, m, most)
			p := Of(m, most)
			left += len(p.Left)
			if above(m.Cells, p.Left, most) {
				t.Fatalf("most %d, %+v: %s", most, m.Cells, told(p))
			}
		}
		if p := Of(m, api.MaxNodes); len(p.Left) > 0 {
			t.Fatalf("%+v: %s", m.Cells, told(p))
		}
	}
	if left < 1000 {
		t.Errorf("%d are left out", left)
	}
}
