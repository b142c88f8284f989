package outcome

import (
	"math"
	"slices"
	"testing"

	"twine/api"
)

func entry(path string, what, side, how int) api.Entry {
	return api.Entry{Path: path, What: what, Side: side, How: how}
}

func wantReport(t *testing.T, what string, m api.Merge, hows []int, want ...api.Entry) {
	t.Helper()
	if got := Report(m, hows); !slices.Equal(got, want) {
		t.Errorf("%s: %v, want %v", what, got, want)
	}
}

func TestP18_3Entries(t *testing.T) {
	m := api.Merge{Cells: []api.Cell{
		{What: api.Both, Mode: 7, Keep: 1, Take: 1},
		{Path: "a", What: api.Both, Side: api.SideB, Mode: 5, Keep: 1, Take: 1},
		{Path: "a/c", What: api.Carry, Side: api.SideA, Keep: 2, Take: 3, Names: 3, Bytes: 9, Had: api.Room{Names: 2, Bytes: 4}},
		{Path: "d", What: api.Conflict, Keep: 4, Take: 4},
		{Path: "e", What: api.ModeConflict, Mode: api.Unknown, Take: 1},
		{Path: "f", What: api.Kept, Side: api.SideA, Mode: 3, Keep: 1, Take: 1},
		{Path: "g", What: api.Agreed, Keep: 1},
	}}
	wantReport(t, "each kind", m, []int{0, api.HowPut, api.HowOvertaken, 0, api.HowLeft, 0, api.HowWeak},
		entry("", api.Both, 0, 0), entry("a", api.Both, api.SideB, api.HowPut), entry("a/c", api.Carry, api.SideA, api.HowOvertaken),
		entry("d", api.Conflict, 0, 0), entry("e", api.ModeConflict, 0, api.HowLeft), entry("f", api.Kept, api.SideA, 0), entry("g", api.Agreed, 0, api.HowWeak))
}

func TestP18_3Lengths(t *testing.T) {
	m := api.Merge{Cells: []api.Cell{{What: api.Both}, {Path: "a", What: api.Carry, Side: api.SideB}}}
	root := entry("", api.Both, 0, api.HowFailed)
	wantReport(t, "no cells", api.Merge{}, []int{1, 2, 3})
	wantReport(t, "no cells, no hows", api.Merge{Cells: []api.Cell{}}, nil)
	wantReport(t, "as many", m, []int{api.HowFailed, api.HowPut}, root, entry("a", api.Carry, api.SideB, api.HowPut))
	wantReport(t, "longer", m, []int{api.HowFailed, api.HowPut, api.HowLeft, 5}, root, entry("a", api.Carry, api.SideB, api.HowPut))
	wantReport(t, "shorter", m, []int{api.HowFailed}, root, entry("a", api.Carry, api.SideB, api.HowNone))
	wantReport(t, "empty", m, []int{}, entry("", api.Both, 0, 0), entry("a", api.Carry, api.SideB, 0))
	wantReport(t, "none", m, nil, entry("", api.Both, 0, 0), entry("a", api.Carry, api.SideB, 0))
}

// Whatever the cells and the hows are, they are told as they are.
func TestP18_3Odd(t *testing.T) {
	m := api.Merge{Cells: []api.Cell{{Path: "//", What: 99, Side: -3}, {Path: "b", What: math.MinInt, Side: math.MaxInt}, {Path: "a"}, {Path: "a"}}}
	wantReport(t, "odd", m, []int{-1, math.MaxInt, 6}, entry("//", 99, -3, -1), entry("b", math.MinInt, math.MaxInt, math.MaxInt), entry("a", 0, 0, 6), entry("a", 0, 0, 0))
}

func TestP18_3ByChance(t *testing.T) {
	a := newAuthor(3)
	for range 2000 {
		m := a.question().merge(t)
		hows := a.hows(len(m.Cells))
		l := Report(m, hows)
		if len(l) != len(m.Cells) {
			t.Fatalf("%d entries of %d cells", len(l), len(m.Cells))
		}
		for i, c := range m.Cells {
			if want := entry(c.Path, c.What, c.Side, plainHow(hows, i)); l[i] != want {
				t.Fatalf("%d: %v, want %v", i, l[i], want)
			}
		}
	}
}
