package plan

import (
	"math"
	"testing"

	"twine/api"
)

// Each What with each Side: which are items, and what they say.
func TestP15_3WhatIsDone(t *testing.T) {
	for _, what := range everyWhat() {
		for _, side := range everySide() {
			c := api.Cell{Path: "d/e", What: what, Side: side, Mode: 5, Keep: 2, Take: 2, Names: 3, Bytes: 4, Had: api.Room{Names: 5, Bytes: 6}}
			m := merge(grow(api.Kept, 1, 1), c)
			if what != api.Carry && what != api.Both || side != api.SideA && side != api.SideB {
				wantItems(t, "nothing", m, 9)
				continue
			}
			want := api.Item{Number: 1, Cell: 1, Path: "d/e", What: what, From: api.A, To: api.B}
			if side == api.SideB {
				want.From, want.To = api.B, api.A
			}
			if what == api.Both {
				want.Mode = 5
			}
			wantItems(t, "done", m, 9, want)
		}
	}
}

// A cell's mode is told as it is, of a Carry it is 0.
func TestP15_3Mode(t *testing.T) {
	for _, mode := range []int{0, 1, 7, 8, 9, -1, math.MaxInt, math.MinInt} {
		for side := api.SideA; side <= api.SideB; side++ {
			both := api.Cell{What: api.Both, Side: side, Mode: mode}
			wantItems(t, "a mode", merge(both), 1, api.Item{Number: 1, What: api.Both, From: side - 1, To: 2 - side, Mode: mode})
			moved := api.Cell{What: api.Carry, Side: side, Mode: mode}
			wantItems(t, "a carry", merge(moved), 1, api.Item{Number: 1, What: api.Carry, From: side - 1, To: 2 - side})
		}
	}
}

// Paths are told as they are, also such as are none, stand twice, or don't rise.
func TestP15_3Paths(t *testing.T) {
	paths := []string{"b", "a", "", "a", "//", "..", "\x00", "d/\xff"}
	var cells []api.Cell
	var want []api.Item
	for i, p := range paths {
		cells = append(cells, api.Cell{Path: p, What: api.Carry, Side: api.SideB})
		want = append(want, api.Item{Number: i + 1, Cell: i, Path: p, What: api.Carry, From: api.B, To: api.A})
	}
	wantItems(t, "paths", merge(cells...), 1, want...)
}

// Items are numbered without a gap, whatever lies between them; their cells are places in the whole list.
func TestP15_3Numbers(t *testing.T) {
	a, b, n := carry(api.SideA, 1, 1), carry(api.SideB, 2, 0), carry(api.SideA, 0, 5)
	mode := api.Cell{What: api.Both, Side: api.SideB, Mode: 3, Keep: 1, Take: 1}
	newMode := api.Cell{What: api.Both, Side: api.SideA, Mode: 6, Take: 1}
	m := named(grow(api.Both, 1, 1), a, n, grow(api.Agreed, 1, 1), mode, newMode, carry(0, 1, 1), grow(api.Conflict, 1, 1), b, n, a)
	item := func(number, cell, what, from, mode int) api.Item {
		return api.Item{Number: number, Cell: cell, Path: m.Cells[cell].Path, What: what, From: from, To: 1 - from, Mode: mode}
	}
	wantItems(t, "all", m, 20,
		item(1, 1, api.Carry, api.A, 0), item(2, 2, api.Carry, api.A, 0), item(3, 4, api.Both, api.B, 3), item(4, 5, api.Both, api.A, 6),
		item(5, 8, api.Carry, api.B, 0), item(6, 9, api.Carry, api.A, 0), item(7, 10, api.Carry, api.A, 0))
	wantItems(t, "one left out", m, 15,
		item(1, 1, api.Carry, api.A, 0), item(2, 2, api.Carry, api.A, 0), item(3, 4, api.Both, api.B, 3), item(4, 5, api.Both, api.A, 6),
		item(5, 8, api.Carry, api.B, 0), item(6, 10, api.Carry, api.A, 0))
	wantItems(t, "two left out", m, 10,
		item(1, 1, api.Carry, api.A, 0), item(2, 4, api.Both, api.B, 3), item(3, 5, api.Both, api.A, 6),
		item(4, 8, api.Carry, api.B, 0), item(5, 10, api.Carry, api.A, 0))
	wantItems(t, "a mode left out, too", m, 9,
		item(1, 1, api.Carry, api.A, 0), item(2, 4, api.Both, api.B, 3), item(3, 8, api.Carry, api.B, 0), item(4, 10, api.Carry, api.A, 0))
}
