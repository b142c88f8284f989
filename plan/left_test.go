package plan

import (
	"fmt"
	"math"
	"testing"

	"twine/api"
)

// grows tells whether a cell that stands alone is left out, if the archive has no room.
func grows(c api.Cell) bool {
	// A conflict keeps what the archive has too much by itself.
	return len(Of(merge(grow(api.Conflict, api.MaxNodes+1, api.MaxNodes+1), c), 1).Left) > 0
}

func TestP15_1WhatGrows(t *testing.T) {
	for _, what := range everyWhat() {
		may := what == api.Carry || what == api.Agreed || what == api.Both || what == api.ModeConflict
		for _, side := range everySide() {
			for keep := -2; keep <= 4; keep++ {
				for take := -2; take <= 4; take++ {
					c := api.Cell{What: what, Side: side, Keep: keep, Take: take}
					if want := may && max(take, 0) > max(keep, 0); grows(c) != want {
						t.Errorf("%+v: %v", c, !want)
					}
				}
			}
		}
	}
}

// Numbers below 0 count as 0: nothing grows from one of them to another, or to 0.
func TestP15_1BelowZero(t *testing.T) {
	below := []int{-1, -2, -api.MaxNodes, math.MinInt + 1, math.MinInt}
	for _, what := range []int{api.Carry, api.Agreed, api.Both, api.ModeConflict} {
		for _, n := range below {
			for _, take := range append(below, 0) {
				if grows(grow(what, n, take)) || grows(grow(what, take, n)) {
					t.Errorf("what %d: %d and %d", what, n, take)
				}
			}
			for _, take := range []int{1, math.MaxInt} {
				if !grows(grow(what, n, take)) || grows(grow(what, take, n)) {
					t.Errorf("what %d: %d and %d", what, n, take)
				}
			}
			// What is below 0 makes no room for others.
			wantLeft(t, "beside it", merge(grow(what, n, n), carry(api.SideA, 0, 5)), 5)
			wantLeft(t, "beside it", merge(grow(what, n, n), carry(api.SideA, 0, 6)), 5, 1)
			wantLeft(t, "what it takes", merge(grow(what, n, 4), carry(api.SideA, 0, 1)), 5)
		}
	}
	wantLeft(t, "left out it keeps 0", merge(carry(api.SideA, -7, 4), grow(api.Conflict, 5, 5)), 5, 0)
	wantLeft(t, "left out it keeps 0, and no less", merge(grow(api.Agreed, 0, 1), carry(api.SideA, -7, 4), grow(api.Conflict, 5, 5)), 5, 0, 1)
}

// Of each What the greater one of what it keeps and takes counts, also of such as never are left out.
func TestP15_1Worst(t *testing.T) {
	for _, what := range everyWhat() {
		for _, c := range []api.Cell{grow(what, 3, 3), grow(what, 3, 1), grow(what, 3, 0), grow(what, 3, -4)} {
			m := merge(c, carry(api.SideB, 0, 2))
			wantLeft(t, fmt.Sprint("just most ", c), m, 5)
			wantLeft(t, fmt.Sprint("one above ", c), m, 4, 1)
			wantLeft(t, fmt.Sprint("one below ", c), m, 6)
		}
		if sortNumber(grow(what, 1, 3)) == 0 {
			m := merge(grow(what, 1, 3), carry(api.SideB, 0, 2))
			wantLeft(t, "it may not be left out", m, 5)
			wantLeft(t, "it may not be left out", m, 4, 1)
			wantLeft(t, "it may not be left out", m, 2, 1)
		}
	}
}

// A cell that is left out counts by what it keeps.
func TestP15_1LeftKeeps(t *testing.T) {
	for _, what := range []int{api.Carry, api.Agreed, api.Both, api.ModeConflict} {
		m := merge(grow(what, 0, 2), grow(what, 4, 9))
		wantLeft(t, "both", m, 11)
		wantLeft(t, "one", m, 10, 1)
		wantLeft(t, "one", m, 6, 1)
		wantLeft(t, "both left", m, 5, 0, 1)
		wantLeft(t, "both left", m, 4, 0, 1)
		wantLeft(t, "more than is there", m, 3, 0, 1)
	}
}

func TestP15_2NoCells(t *testing.T) {
	for _, most := range []int{math.MinInt, -1, 0, 1, 2, api.MaxNodes, api.MaxNodes + 1, math.MaxInt} {
		for _, m := range []api.Merge{{}, {Cells: []api.Cell{}}} {
			if p := Of(m, most); !samePlan(p, api.Plan{}) {
				t.Errorf("most %d: %s", most, told(p))
			}
		}
	}
}

// most below 1 counts as 1, above MaxNodes as MaxNodes.
func TestP15_2Most(t *testing.T) {
	for _, most := range []int{1, 0, -1, -api.MaxNodes, math.MinInt + 1, math.MinInt} {
		wantLeft(t, "one", merge(carry(api.SideA, 0, 1)), most)
		wantLeft(t, "two", merge(carry(api.SideA, 0, 2)), most, 0)
		wantLeft(t, "one and one", merge(carry(api.SideA, 0, 1), carry(api.SideB, 0, 1)), most, 1)
	}
	wantLeft(t, "two", merge(carry(api.SideA, 0, 2)), 2)
	root, d := grow(api.Both, 1, 1), grow(api.Agreed, 0, api.MaxNodes-1)
	for _, most := range []int{api.MaxNodes, api.MaxNodes + 1, 2 * api.MaxNodes, math.MaxInt - 1, math.MaxInt} {
		wantLeft(t, "just MaxNodes", merge(root, d), most)
		wantLeft(t, "one more", merge(root, d, grow(api.Carry, 0, 1)), most, 2)
		wantLeft(t, "one more", merge(root, grow(api.Agreed, 0, api.MaxNodes)), most, 1)
	}
	wantLeft(t, "one less", merge(root, d), api.MaxNodes-1, 1)
	wantLeft(t, "one less", merge(root, grow(api.Agreed, 0, api.MaxNodes-2)), api.MaxNodes-1)
}

// The first sort goes ahead of the second, wherever its cells stand.
func TestP15_2Sorts(t *testing.T) {
	f := carry(api.SideA, 0, 1)
	for _, what := range []int{api.Agreed, api.Both, api.ModeConflict} {
		s := grow(what, 0, 1)
		for _, c := range []struct {
			name  string
			cells []api.Cell
			order []int
		}{
			{"behind", []api.Cell{s, s, f, f}, []int{3, 2, 1, 0}},
			{"ahead", []api.Cell{f, f, s, s}, []int{1, 0, 3, 2}},
			{"between", []api.Cell{s, f, f, s}, []int{2, 1, 3, 0}},
			{"about", []api.Cell{f, s, s, f}, []int{3, 0, 2, 1}},
			{"in turn", []api.Cell{f, s, f, s, f}, []int{4, 2, 0, 3, 1}},
			{"the second alone", []api.Cell{s, s, s}, []int{2, 1, 0}},
			{"the first alone", []api.Cell{f, f, f}, []int{2, 1, 0}},
		} {
			full := grow(api.Conflict, 9, 9)
			cells := append(c.cells, full)
			for n := range len(c.order) + 1 {
				var want []int
				for i := range c.cells {
					for _, j := range c.order[:n] {
						if i == j {
							want = append(want, i)
						}
					}
				}
				wantLeft(t, c.name, merge(cells...), 9+len(c.order)-n, want...)
			}
			wantPlan(t, merge(cells...), 1)
		}
	}
}

// The kinds of the second sort are one: the last one by place goes first.
func TestP15_2SecondSort(t *testing.T) {
	whats := []int{api.Agreed, api.Both, api.ModeConflict}
	for _, x := range whats {
		for _, y := range whats {
			for _, z := range whats {
				m := merge(grow(x, 0, 2), grow(y, 0, 2), grow(z, 0, 2))
				wantLeft(t, "none", m, 6)
				wantLeft(t, "one", m, 5, 2)
				wantLeft(t, "two", m, 3, 1, 2)
				wantLeft(t, "all", m, 1, 0, 1, 2)
			}
		}
	}
}

// It is the last one that goes, not the one that brings most, and one that hardly brings anything goes, too.
func TestP15_2NotTheGreatest(t *testing.T) {
	m := merge(carry(api.SideA, 0, 90), carry(api.SideB, 5, 6), carry(api.SideA, 3, 3), carry(api.SideA, 4, 2), carry(api.SideA, 1, 2))
	wantLeft(t, "all", m, 105)
	wantLeft(t, "one", m, 104, 4)
	wantLeft(t, "two", m, 103, 1, 4)
	wantLeft(t, "three", m, 102, 0, 1, 4)
	wantLeft(t, "no more", m, 12, 0, 1, 4)
}

// A cell that grows and has no side, or no right one, may be left out; it is no item.
func TestP15_2NoSide(t *testing.T) {
	for _, side := range everySide() {
		for _, what := range []int{api.Carry, api.Agreed, api.Both, api.ModeConflict} {
			m := named(api.Cell{What: what, Side: side, Take: 3, Names: 3, Bytes: 3, Mode: 5}, grow(api.Conflict, 4, 4))
			wantLeft(t, "in", m, 7)
			wantLeft(t, "out", m, 6, 0)
			if p := Of(m, 6); len(p.Items) != 0 || p.Need != [2]api.Room{} {
				t.Errorf("left out: %s", told(p))
			}
			done := (what == api.Carry || what == api.Both) && (side == api.SideA || side == api.SideB)
			if p := Of(m, 7); len(p.Items) > 0 != done {
				t.Errorf("what %d, side %d: %s", what, side, told(p))
			}
		}
	}
}

// A sum above the greatest int isn't taken for a small one, and what is taken off it leaves the rest.
func TestP15_2GreatSums(t *testing.T) {
	const great = math.MaxInt
	for _, what := range []int{api.Carry, api.Agreed, api.Both, api.ModeConflict} {
		g := grow(what, 0, great)
		wantLeft(t, "two", merge(g, g), 1, 0, 1)
		wantLeft(t, "three", merge(g, g, g), great, 0, 1, 2)
		wantLeft(t, "four halves", merge(grow(what, 0, great/2), grow(what, 0, great/2), grow(what, 0, 3), grow(what, 0, great/2)), 9, 0, 1, 2, 3)
		wantLeft(t, "small ones ahead", merge(grow(what, 0, 2), grow(what, 0, 3), g, g), 5, 2, 3)
		wantLeft(t, "small ones ahead", merge(grow(what, 0, 2), grow(what, 0, 3), g, g), 4, 1, 2, 3)
		wantLeft(t, "small ones behind", merge(g, g, grow(what, 0, 1)), 5, 0, 1, 2)
		wantLeft(t, "from one less", merge(grow(what, 0, 1), grow(what, great-1, great)), 5, 0, 1)
		wantLeft(t, "beside what is kept", merge(grow(what, 0, 1), grow(api.Conflict, great, great), g), great, 0, 2)
		wantLeft(t, "beside what shrinks", merge(grow(what, 0, 1), grow(what, great, 0), g), great, 0, 2)
		wantLeft(t, "beside the least", merge(grow(what, 0, 1), grow(api.Conflict, math.MinInt, math.MinInt), grow(what, math.MinInt, 2)), 3)
		wantLeft(t, "beside the least", merge(grow(what, 0, 1), grow(api.Conflict, math.MinInt, math.MinInt), grow(what, math.MinInt, 2)), 2, 2)
	}
	for _, what := range []int{api.Conflict, api.Kept, 0, 7} {
		wantLeft(t, "nothing grows", merge(grow(what, 0, great), grow(what, great, 0), grow(what, 0, great)), 5)
	}
}

// Left tells each place, 0 too, rising, whatever the order in which they were left out.
func TestP15_2Places(t *testing.T) {
	s, f := grow(api.Agreed, 0, 1), carry(api.SideA, 0, 1)
	wantLeft(t, "all", merge(s, f, s, f, grow(api.Kept, 1, 1)), 1, 0, 1, 2, 3)
	wantLeft(t, "the first alone", merge(f, s, s), 2, 0)
	wantLeft(t, "not what stays", merge(grow(api.Both, 1, 1), s, grow(api.Kept, 1, 1), f, carry(api.SideB, 1, 0)), 1, 1, 3)
}

// A great merge is gone through a few times, not once for each cell that is left out.
func TestP15_2Many(t *testing.T) {
	cells := make([]api.Cell, 1<<20)
	for i := range cells {
		cells[i] = grow(api.Agreed, 0, 1)
		if i%2 == 0 {
			cells[i] = carry(api.SideA, 0, 1)
		}
	}
	p := Of(merge(cells...), 1)
	if len(p.Left) != len(cells)-1 || len(p.Items) != 0 {
		t.Fatalf("%d left, %d items", len(p.Left), len(p.Items))
	}
	for i, place := range p.Left {
		if want := i + min(i, 1); place != want {
			t.Fatalf("place %d: %d", i, place)
		}
	}
	p = Of(merge(cells...), api.MaxNodes)
	if len(p.Left) != 0 || len(p.Items) != len(cells)/2 {
		t.Errorf("%d left, %d items", len(p.Left), len(p.Items))
	}
}
