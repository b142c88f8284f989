package plan

import (
	"math"
	"testing"

	"twine/api"
)

// names: what comes and goes as names alone, bytes: as bytes alone.
func names(side int, moves ...[2]int) api.Merge {
	var cells []api.Cell
	for _, m := range moves {
		cells = append(cells, bring(side, m[0], 0, m[1], 0))
	}
	return merge(cells...)
}

func bytes(side int, moves ...[2]int) api.Merge {
	var cells []api.Cell
	for _, m := range moves {
		cells = append(cells, bring(side, 0, m[0], 0, m[1]))
	}
	return merge(cells...)
}

// wantEach looks at names and at bytes, to A and to B.
func wantEach(t *testing.T, what string, want int, moves ...[2]int) {
	t.Helper()
	wantNeed(t, what, names(api.SideA, moves...), [2]api.Room{{}, {Names: want}})
	wantNeed(t, what, names(api.SideB, moves...), [2]api.Room{{Names: want}, {}})
	wantNeed(t, what, bytes(api.SideA, moves...), [2]api.Room{{}, {Bytes: want}})
	wantNeed(t, what, bytes(api.SideB, moves...), [2]api.Room{{Bytes: want}, {}})
}

func TestP15_4Balance(t *testing.T) {
	wantEach(t, "nothing", 0)
	wantEach(t, "of nothing", 0, [2]int{0, 0})
	wantEach(t, "one", 7, [2]int{7, 0})
	wantEach(t, "it stands beside what it goes over", 7, [2]int{7, 7})
	wantEach(t, "and beside more", 7, [2]int{7, 9})
	wantEach(t, "what goes alone needs none", 0, [2]int{0, 9})
	wantEach(t, "it rises", 10, [2]int{1, 0}, [2]int{2, 0}, [2]int{3, 0}, [2]int{4, 0})
	wantEach(t, "it stays", 4, [2]int{4, 4}, [2]int{3, 3}, [2]int{4, 4})
	wantEach(t, "what went makes room", 5, [2]int{0, 9}, [2]int{5, 0}, [2]int{9, 0})
	wantEach(t, "not for what came ahead of it", 9, [2]int{9, 0}, [2]int{0, 9}, [2]int{5, 0})
	wantEach(t, "it falls below 0 and rises again", 3, [2]int{2, 8}, [2]int{1, 0}, [2]int{8, 2}, [2]int{2, 0})
	wantEach(t, "it stays below 0", 0, [2]int{0, 10}, [2]int{4, 3}, [2]int{5, 1})
	wantEach(t, "it comes to just 0", 0, [2]int{0, 10}, [2]int{4, 0}, [2]int{6, 0})
	wantEach(t, "it comes to just 1", 1, [2]int{0, 10}, [2]int{4, 0}, [2]int{7, 0})
	wantEach(t, "the greatest is in the middle", 12, [2]int{5, 0}, [2]int{7, 6}, [2]int{1, 9}, [2]int{3, 0})
}

// Names and bytes, A and B have a balance each.
func TestP15_4Apart(t *testing.T) {
	m := merge(bring(api.SideA, 3, 10, 1, 90), bring(api.SideB, 5, 0, 0, 7), bring(api.SideA, 1, 85, 4, 0), bring(api.SideB, 2, 9, 6, 1), bring(api.SideA, 8, 6, 0, 0))
	wantNeed(t, "apart", m, [2]api.Room{{Names: 7, Bytes: 2}, {Names: 7, Bytes: 11}})
}

// What isn't carried counts for no room, whatever numbers it has.
func TestP15_4OthersCountNot(t *testing.T) {
	for _, what := range everyWhat() {
		for _, side := range everySide() {
			c := api.Cell{What: what, Side: side, Mode: 5, Names: 100, Bytes: 200, Had: api.Room{Names: 1, Bytes: 2}}
			low := api.Cell{What: what, Side: side, Mode: 5, Had: api.Room{Names: 100, Bytes: 200}}
			var want [2]api.Room
			if what == api.Carry && (side == api.SideA || side == api.SideB) {
				want[2-side] = api.Room{Names: 100, Bytes: 200}
				wantNeed(t, "a carry", merge(c), want)
				continue
			}
			wantNeed(t, "no carry", merge(c), want)
			want = [2]api.Room{{Names: 3, Bytes: 4}, {Names: 1, Bytes: 2}}
			wantNeed(t, "among others", merge(low, bring(api.SideA, 1, 2, 0, 0), c, bring(api.SideB, 3, 4, 0, 0), low), want)
		}
	}
}

// What is left out counts for no room, neither by what would come nor by what would go.
func TestP15_4LeftOut(t *testing.T) {
	out := api.Cell{What: api.Carry, Side: api.SideA, Take: 9, Names: 50, Bytes: 60, Had: api.Room{Names: 3, Bytes: 4}}
	m := merge(bring(api.SideA, 2, 3, 0, 0), out, bring(api.SideA, 5, 6, 0, 0))
	if p := Of(m, 9); p.Need != [2]api.Room{{}, {Names: 54, Bytes: 65}} || len(p.Left) != 0 {
		t.Error(told(p))
	}
	if p := Of(m, 8); p.Need != [2]api.Room{{}, {Names: 7, Bytes: 9}} || len(p.Left) != 1 {
		t.Error(told(p))
	}
	wantPlan(t, m, 9)
	wantPlan(t, m, 8)
}

// Keep and Take are of the archive: they count for no room.
func TestP15_4NotTheArchives(t *testing.T) {
	c := bring(api.SideB, 1, 2, 0, 0)
	c.Keep, c.Take = 9, 7
	wantNeed(t, "keep and take", merge(c), [2]api.Room{{Names: 1, Bytes: 2}, {}})
}

func TestP15_4BelowZero(t *testing.T) {
	for _, n := range []int{-1, -5, math.MinInt + 1, math.MinInt} {
		wantEach(t, "what comes", 3, [2]int{n, 0}, [2]int{3, 0})
		wantEach(t, "what comes and goes", 1, [2]int{n, 2}, [2]int{3, 0})
		wantEach(t, "what goes", 7, [2]int{3, n}, [2]int{4, 0})
		wantEach(t, "both", 3, [2]int{n, n}, [2]int{3, n})
		wantEach(t, "alone", 0, [2]int{n, n})
	}
}

// Sums and differences stop at the greatest and at the least int, one by one.
func TestP15_4Stops(t *testing.T) {
	const great = math.MaxInt
	wantEach(t, "the greatest", great, [2]int{great, 0})
	wantEach(t, "one more", great, [2]int{great, 0}, [2]int{1, 0})
	wantEach(t, "one less and two", great, [2]int{great - 1, 0}, [2]int{2, 0})
	wantEach(t, "one less and one", great, [2]int{great - 1, 0}, [2]int{1, 0})
	wantEach(t, "one less", great-1, [2]int{great - 2, 0}, [2]int{1, 0})
	wantEach(t, "twice", great, [2]int{great, 0}, [2]int{great, 0}, [2]int{great, great})
	wantEach(t, "there and back", great, [2]int{5, 0}, [2]int{great, great}, [2]int{6, 0})
	wantEach(t, "the greatest over the greatest", great, [2]int{great, great}, [2]int{great, great})
	wantEach(t, "from below", great-5, [2]int{0, 5}, [2]int{great, 0})
	// Down to the least int, which is one further below than the greatest is above.
	wantEach(t, "at the least", 9, [2]int{0, great}, [2]int{0, 1}, [2]int{great, 0}, [2]int{1, 0}, [2]int{9, 0})
	wantEach(t, "it stops at the least", 9, [2]int{0, great}, [2]int{0, 5}, [2]int{great, 0}, [2]int{1, 0}, [2]int{9, 0})
	wantEach(t, "far below", 9, [2]int{0, great}, [2]int{0, great}, [2]int{great, 0}, [2]int{1, 0}, [2]int{9, 0})
	wantEach(t, "one above the least", 9, [2]int{0, great}, [2]int{0, 0}, [2]int{great, 0}, [2]int{9, 0})
	wantEach(t, "far below and far above", great, [2]int{0, great}, [2]int{0, great}, [2]int{great, 0}, [2]int{great, 0}, [2]int{great, 0})
}
