package plan

import (
	"math"
	"slices"
	"sync"
	"testing"

	"twine/api"
)

// much: a merge with items, some left out, and numbers that are counted otherwise than they are.
func much() api.Merge {
	return named(
		grow(api.Both, 1, 1),
		api.Cell{What: api.Carry, Side: api.SideA, Take: 2, Names: 3, Bytes: -4, Had: api.Room{Names: -1, Bytes: 2}},
		api.Cell{What: api.Agreed, Keep: -3, Take: 1},
		api.Cell{What: api.Both, Side: api.SideB, Mode: -5, Keep: 1, Take: 1},
		api.Cell{What: api.Carry, Side: api.SideB, Keep: 3, Take: -2, Names: math.MinInt, Bytes: 7, Had: api.Room{Names: 5, Bytes: math.MinInt}},
		api.Cell{What: api.Carry, Side: api.SideA, Keep: 1, Take: 6, Names: 6, Bytes: 9},
		api.Cell{What: api.ModeConflict, Mode: api.Unknown, Take: 1},
	)
}

const scrawl = "scrawl"

// scrawled: a cell that would change everything.
func scrawled() api.Cell {
	return api.Cell{Path: scrawl, What: api.Carry, Side: api.SideB, Mode: 1, Keep: 9, Take: 99, Names: 9, Bytes: 9, Had: api.Room{Names: 9, Bytes: 9}}
}

// roomy: the cells in a list with spare room behind them, and all of that room.
func roomy(m api.Merge) (list api.Merge, whole []api.Cell) {
	whole = slices.Clone(m.Cells)
	for range 5 {
		whole = append(whole, scrawled())
	}
	return merge(whole[:len(m.Cells)]...), whole
}

// What is handed in, and the room behind it, stays as it is.
func TestP15_3HandedIn(t *testing.T) {
	for most := range 20 {
		m, whole := roomy(much())
		before := slices.Clone(whole)
		Of(m, most)
		if !slices.Equal(whole, before) {
			t.Errorf("most %d: %+v", most, whole)
		}
	}
}

// What was handed in may be written over behind the call.
func TestP15_3WrittenOver(t *testing.T) {
	for most := range 20 {
		m, whole := roomy(much())
		p := Of(m, most)
		for i := range whole {
			whole[i] = scrawled()
		}
		if want := plainly(much(), most); !samePlan(p, want) {
			t.Errorf("most %d: %s, want %s", most, told(p), told(want))
		}
	}
}

// scribble writes over all of a plan, the room behind its lists too.
func scribble(p *api.Plan) {
	items, left := p.Items[:cap(p.Items)], p.Left[:cap(p.Left)]
	for i := range items {
		items[i] = api.Item{Number: 99, Cell: 99, Path: scrawl}
	}
	for i := range left {
		left[i] = 99
	}
	p.Need = [2]api.Room{{Names: 99}, {Bytes: 99}}
}

// What is handed out, and the room behind it, may be written over: no other answer is touched, nor what was handed in.
func TestP15_3HandedOut(t *testing.T) {
	for most := range 20 {
		m, whole := roomy(much())
		before := slices.Clone(whole)
		want := plainly(much(), most)
		one, two := Of(m, most), Of(m, most)
		scribble(&one)
		if !samePlan(two, want) {
			t.Errorf("most %d: another answer: %s, want %s", most, told(two), told(want))
		}
		if p := Of(m, most); !samePlan(p, want) {
			t.Errorf("most %d: a later one: %s, want %s", most, told(p), told(want))
		}
		if !slices.Equal(whole, before) {
			t.Errorf("most %d: what was handed in: %+v", most, whole)
		}
	}
}

// An answer doesn't hang on what was asked before, nor on where a list lies.
func TestP15_3NothingIsKept(t *testing.T) {
	var plans []api.Plan
	for most := range 20 {
		plans = append(plans, Of(much(), most))
		Of(first(), most)
	}
	for most, p := range slices.Backward(plans) {
		m, _ := roomy(much())
		if q := Of(m, most); !samePlan(p, q) || !samePlan(p, plainly(much(), most)) {
			t.Errorf("most %d: %s, then %s", most, told(p), told(q))
		}
	}
}

// Many ask at once of one list.
func TestP15_3AtOnce(t *testing.T) {
	m, _ := roomy(much())
	var group sync.WaitGroup
	wrong := make([]bool, 8)
	for i := range wrong {
		group.Go(func() {
			for most := range 200 {
				p := Of(m, most%20)
				wrong[i] = wrong[i] || !samePlan(p, plainly(much(), most%20))
				scribble(&p)
			}
		})
	}
	group.Wait()
	if slices.Contains(wrong, true) {
		t.Error("someone saw another thing")
	}
}
