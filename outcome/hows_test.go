package outcome

import (
	"fmt"
	"math"
	"slices"
	"testing"

	"twine/api"
	"twine/plan"
)

// cells: a merge of so many cells.
func cells(n int) api.Merge {
	m := api.Merge{}
	for i := range n {
		m.Cells = append(m.Cells, api.Cell{Path: fmt.Sprint("p", i), What: api.Carry, Side: api.SideA})
	}
	return m
}

// plainHows is P18.1, word for word.
func plainHows(m api.Merge, p api.Plan, done []api.Done) []int {
	var hows []int
	for i := range m.Cells {
		how := api.HowNone
		first := slices.IndexFunc(p.Items, func(it api.Item) bool { return it.Cell == i })
		switch {
		case slices.Contains(p.Left, i):
			how = api.HowLeft
		case first >= 0:
			how = api.HowLeft
			for _, d := range done {
				if d.Item == p.Items[first].Number {
					how = d.How
				}
			}
		}
		hows = append(hows, how)
	}
	return hows
}

func wantHows(t *testing.T, what string, m api.Merge, p api.Plan, done []api.Done, want ...int) {
	t.Helper()
	if got := Hows(m, p, done); !slices.Equal(got, want) {
		t.Errorf("%s: %v, want %v", what, got, want)
	}
	if plainly := plainHows(m, p, done); !slices.Equal(plainly, want) {
		t.Errorf("%s: plainly %v, want %v", what, plainly, want)
	}
}

func item(number, cell int) api.Item {
	return api.Item{Number: number, Cell: cell, What: api.Carry, To: api.B}
}

func ended(item, how int) api.Done { return api.Done{Item: item, How: how} }

func TestP18_1Cells(t *testing.T) {
	p := api.Plan{Items: []api.Item{item(1, 0), item(2, 1)}, Left: []int{2, 0}}
	put := []api.Done{ended(1, api.HowPut), ended(2, api.HowPut)}
	wantHows(t, "no cells", cells(0), p, put)
	wantHows(t, "no cells, no plan", cells(0), api.Plan{}, nil)
	wantHows(t, "one cell, no plan", cells(1), api.Plan{}, put, api.HowNone)
	wantHows(t, "one cell", cells(1), api.Plan{Items: []api.Item{item(1, 0)}}, put, api.HowPut)
	wantHows(t, "one cell, left", cells(1), api.Plan{Left: []int{0}}, put, api.HowLeft)
	wantHows(t, "many", cells(5), p, put, api.HowLeft, api.HowPut, api.HowLeft, api.HowNone, api.HowNone)
	wantHows(t, "no items", cells(3), api.Plan{Left: []int{1}}, put, api.HowNone, api.HowLeft, api.HowNone)
	wantHows(t, "empty lists", cells(3), api.Plan{Items: []api.Item{}, Left: []int{}}, []api.Done{}, 0, 0, 0)
}

// What an item's kind, path and sides are, and what its cell is, doesn't matter.
func TestP18_1OtherFields(t *testing.T) {
	m := api.Merge{Cells: []api.Cell{{What: api.Conflict}, {What: api.Agreed, Path: "x"}, {What: 77}}}
	p := api.Plan{Items: []api.Item{{Number: 3, Cell: 2, Path: "y", What: api.Both}, {Number: 1, Cell: 0}, {Number: 2, Cell: 1, From: 9}}, Need: [2]api.Room{{Names: 3}, {Bytes: 4}}}
	wantHows(t, "", m, p, []api.Done{{Item: 2, How: api.HowFailed, Put: []api.Placed{{Path: "x", Number: 1, Stamp: 1}}}, ended(3, api.HowWeak), ended(1, api.HowPut)}, api.HowPut, api.HowFailed, api.HowWeak)
}

// Of two items of one cell the first one in the list counts, whatever its number.
func TestP18_1TwoItems(t *testing.T) {
	put := []api.Done{ended(1, api.HowPut), ended(2, api.HowFailed)}
	for _, c := range []struct {
		items []api.Item
		done  []api.Done
		want  int
	}{
		{[]api.Item{item(1, 1), item(2, 1)}, put, api.HowPut},
		{[]api.Item{item(2, 1), item(1, 1)}, put, api.HowFailed},
		{[]api.Item{item(3, 1), item(1, 1), item(2, 1)}, put, api.HowLeft},
		{[]api.Item{item(1, 1), item(2, 1)}, put[1:], api.HowLeft},
		{[]api.Item{item(1, 1), item(1, 1)}, put, api.HowPut},
		{[]api.Item{item(1, 0), item(2, 1), item(1, 2), item(1, 1)}, put, api.HowFailed},
	} {
		hows := Hows(cells(3), api.Plan{Items: c.items}, c.done)
		if hows[1] != c.want || !slices.Equal(hows, plainHows(cells(3), api.Plan{Items: c.items}, c.done)) {
			t.Errorf("%v, %v: %v, want %d", c.items, c.done, hows, c.want)
		}
	}
	wantHows(t, "one number, two cells", cells(2), api.Plan{Items: []api.Item{item(1, 1), item(1, 0)}}, put, api.HowPut, api.HowPut)
}

// Places that aren't cells' count for nothing.
func TestP18_1NoPlaces(t *testing.T) {
	done := []api.Done{ended(1, api.HowPut), ended(2, api.HowFailed)}
	for _, place := range []int{-1, -2, 3, 4, math.MaxInt, math.MinInt} {
		wantHows(t, fmt.Sprint("items at ", place), cells(3), api.Plan{Items: []api.Item{item(1, place), item(2, 1), item(1, place)}}, done, 0, api.HowFailed, 0)
		wantHows(t, fmt.Sprint("left at ", place), cells(3), api.Plan{Items: []api.Item{item(1, 0)}, Left: []int{place, 2, place}}, done, api.HowPut, 0, api.HowLeft)
		wantHows(t, fmt.Sprint("no cells, ", place), cells(0), api.Plan{Items: []api.Item{item(1, place)}, Left: []int{place}}, done)
	}
	wantHows(t, "the first and the last", cells(3), api.Plan{Items: []api.Item{item(1, 0), item(2, 2)}}, done, api.HowPut, 0, api.HowFailed)
}

// A place that is left out has ended so, whatever an item says besides.
func TestP18_1LeftWithItem(t *testing.T) {
	for _, how := range everyHow() {
		wantHows(t, "left", cells(2), api.Plan{Items: []api.Item{item(1, 0), item(2, 1)}, Left: []int{1}}, []api.Done{ended(1, how), ended(2, how)}, how, api.HowLeft)
		wantHows(t, "left twice", cells(2), api.Plan{Items: []api.Item{item(1, 0)}, Left: []int{0, 1, 0}}, []api.Done{ended(1, how)}, api.HowLeft, api.HowLeft)
	}
}

func TestP18_1Done(t *testing.T) {
	p := api.Plan{Items: []api.Item{item(1, 0), item(2, 2)}}
	wantHows(t, "none", cells(3), p, nil, api.HowLeft, 0, api.HowLeft)
	wantHows(t, "empty", cells(3), p, []api.Done{}, api.HowLeft, 0, api.HowLeft)
	wantHows(t, "one alone", cells(3), p, []api.Done{ended(2, api.HowPut)}, api.HowLeft, 0, api.HowPut)
	wantHows(t, "twice", cells(3), p, []api.Done{ended(1, api.HowFailed), ended(1, api.HowPut)}, api.HowPut, 0, api.HowLeft)
	wantHows(t, "twice, another between", cells(3), p, []api.Done{ended(1, api.HowPut), ended(2, api.HowPut), ended(1, api.HowOvertaken)}, api.HowOvertaken, 0, api.HowPut)
	wantHows(t, "numbers that no item has", cells(3), p, []api.Done{ended(0, api.HowPut), ended(3, api.HowPut), ended(-1, api.HowPut), ended(math.MaxInt, api.HowFailed), ended(math.MinInt, api.HowFailed)}, api.HowLeft, 0, api.HowLeft)
	for _, how := range everyHow() {
		wantHows(t, "each How", cells(3), p, []api.Done{ended(1, api.HowPut), ended(2, how), ended(1, how)}, how, 0, how)
	}
	odd := api.Plan{Items: []api.Item{item(0, 0), item(-5, 1), item(math.MaxInt, 2)}}
	wantHows(t, "odd numbers", cells(3), odd, []api.Done{ended(-5, api.HowPut), ended(0, api.HowFailed)}, api.HowFailed, api.HowPut, api.HowLeft)
}

func (a author) plan(cells int) (api.Plan, []api.Done) {
	var p api.Plan
	var done []api.Done
	for range a.Intn(6) {
		p.Items = append(p.Items, item(a.Intn(5), a.Intn(cells+3)-1))
	}
	for range a.Intn(3) {
		p.Left = append(p.Left, a.Intn(cells+3)-1)
	}
	for range a.Intn(6) {
		done = append(done, ended(a.Intn(6), everyHow()[a.Intn(len(everyHow()))]))
	}
	return p, done
}

func TestP18_1ByChance(t *testing.T) {
	a := newAuthor(1)
	for range 20000 {
		m := cells(a.Intn(6))
		p, done := a.plan(len(m.Cells))
		if got, want := Hows(m, p, done), plainHows(m, p, done); !slices.Equal(got, want) {
			t.Fatalf("%d cells, %+v, %+v: %v, want %v", len(m.Cells), p, done, got, want)
		}
	}
}

// Plans as layer 15 makes them: a cell without an item, and not left out, has ended as HowNone.
func TestP18_1OfPlans(t *testing.T) {
	a := newAuthor(2)
	seen := map[int]int{}
	for range 1000 {
		m := a.question().merge(t)
		p := plan.Of(m, 1+a.Intn(30))
		hows := Hows(m, p, allDone(p, api.HowPut))
		for i, c := range m.Cells {
			want := api.HowNone
			if slices.Contains(p.Left, i) {
				want = api.HowLeft
			} else if (c.What == api.Carry || c.What == api.Both) && c.Side != 0 {
				want = api.HowPut
			}
			if hows[i] != want {
				t.Fatalf("%s at %d: %d, want %d", toldCells(m), i, hows[i], want)
			}
			seen[want]++
		}
	}
	if seen[api.HowNone] < 1000 || seen[api.HowLeft] < 500 || seen[api.HowPut] < 300 {
		t.Error(seen)
	}
}

// Many cells, items and dones: it is no matter of all against all.
func TestP18_1Many(t *testing.T) {
	const n = 300000
	m := cells(n)
	var p api.Plan
	var done []api.Done
	for i := range n {
		p.Items = append(p.Items, item(i+1, n-1-i))
		done = append(done, ended(n-i, (n-i)%6))
	}
	p.Left = []int{0, n / 2, n - 1}
	for i, how := range Hows(m, p, done) {
		want := (n - i) % 6
		if slices.Contains(p.Left, i) {
			want = api.HowLeft
		}
		if how != want {
			t.Fatalf("%d: %d, want %d", i, how, want)
		}
	}
}
