package plan

import (
	"testing"

	"twine/api"
)

// first: the first example's merge.
func first() api.Merge {
	return merge(
		api.Cell{What: api.Both, Keep: 1, Take: 1},
		api.Cell{Path: "a", What: api.Carry, Side: api.SideA, Take: 3},
		api.Cell{Path: "b", What: api.Agreed, Take: 2},
		api.Cell{Path: "c", What: api.Carry, Side: api.SideB, Keep: 2},
		api.Cell{Path: "d", What: api.Carry, Side: api.SideA, Keep: 1, Take: 4},
	)
}

// The first example, with each most that it names and those about them.
func TestP15_2Example(t *testing.T) {
	for most := -2; most <= 14; most++ {
		var want []int
		switch {
		case most < 6:
			want = []int{1, 2, 4}
		case most < 9:
			want = []int{1, 4}
		case most < 12:
			want = []int{4}
		}
		wantLeft(t, "the first example", first(), most, want...)
	}
}

func TestP15_3Example(t *testing.T) {
	a := api.Item{Number: 1, Cell: 1, Path: "a", What: api.Carry, From: api.A, To: api.B}
	c := api.Item{Number: 2, Cell: 3, Path: "c", What: api.Carry, From: api.B, To: api.A}
	d := api.Item{Number: 3, Cell: 4, Path: "d", What: api.Carry, From: api.A, To: api.B}
	wantItems(t, "nothing is left", first(), 12, a, c, d)
	wantItems(t, "d is left", first(), 11, a, c)
	c.Number = 1
	wantItems(t, "d and a", first(), 8, c)
	wantItems(t, "d, a, b", first(), 5, c)
	wantItems(t, "the same", first(), 3, c)
}

func TestP15_4Example(t *testing.T) {
	wantNeed(t, "the second example", merge(bring(api.SideA, 3, 100, 1, 40), bring(api.SideA, 2, 10, 0, 0)), [2]api.Room{{}, {Names: 4, Bytes: 100}})
	wantNeed(t, "exchanged", merge(bring(api.SideB, 3, 100, 1, 40), bring(api.SideB, 2, 10, 0, 0)), [2]api.Room{{Names: 4, Bytes: 100}, {}})
}
