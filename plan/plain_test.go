package plan

import (
	"fmt"
	"math"
	"math/big"
	"math/rand"
	"slices"
	"strings"
	"testing"

	"twine/api"
)

// merge: cells as a merge.
func merge(cells ...api.Cell) api.Merge { return api.Merge{Cells: cells} }

// grow: a cell that keeps and takes so much.
func grow(what, keep, take int) api.Cell { return api.Cell{What: what, Keep: keep, Take: take} }

// carry: a carrying cell that keeps and takes so much.
func carry(side, keep, take int) api.Cell {
	return api.Cell{What: api.Carry, Side: side, Keep: keep, Take: take}
}

// bring: a carrying cell that brings so much, over so much.
func bring(side, names, bytes, hadNames, hadBytes int) api.Cell {
	return api.Cell{What: api.Carry, Side: side, Names: names, Bytes: bytes, Had: api.Room{Names: hadNames, Bytes: hadBytes}}
}

// named gives each cell a path of its own.
func named(cells ...api.Cell) api.Merge {
	for i := range cells {
		cells[i].Path = fmt.Sprintf("p%d", i)
	}
	return merge(cells...)
}

// everyWhat: the six, and such as are none of them.
func everyWhat() []int {
	return []int{api.Agreed, api.Both, api.Carry, api.Conflict, api.ModeConflict, api.Kept, 0, -1, 7, math.MaxInt, math.MinInt}
}

// everySide: the two, none, and such as are no sides.
func everySide() []int {
	return []int{api.SideA, api.SideB, 0, -1, 3, math.MaxInt, math.MinInt}
}

// sortNumber: 1 or 2, by which sort a cell grows, 0, if it doesn't.
func sortNumber(c api.Cell) int {
	if max(c.Take, 0) <= max(c.Keep, 0) {
		return 0
	}
	switch c.What {
	case api.Carry:
		return 1
	case api.Agreed, api.Both, api.ModeConflict:
		return 2
	}
	return 0
}

// plainWorst is P15.1's sum, which has no end here.
func plainWorst(cells []api.Cell, left []int) *big.Int {
	sum := new(big.Int)
	for i, c := range cells {
		n := max(c.Keep, 0)
		if !slices.Contains(left, i) {
			n = max(n, c.Take)
		}
		sum.Add(sum, big.NewInt(int64(n)))
	}
	return sum
}

func plainMost(most int) int { return min(max(most, 1), api.MaxNodes) }

// above tells whether the worst is above most.
func above(cells []api.Cell, left []int, most int) bool {
	return plainWorst(cells, left).Cmp(big.NewInt(int64(plainMost(most)))) > 0
}

// plainNext: the place of the cell that is left out next, -1: there is none.
func plainNext(cells []api.Cell, left []int) int {
	for sort := 1; sort <= 2; sort++ {
		for i := len(cells) - 1; i >= 0; i-- {
			if sortNumber(cells[i]) == sort && !slices.Contains(left, i) {
				return i
			}
		}
	}
	return -1
}

// plainLeft is P15.2, word for word: in the order in which they are left out.
func plainLeft(cells []api.Cell, most int) []int {
	var left []int
	for above(cells, left, most) {
		next := plainNext(cells, left)
		if next < 0 {
			break
		}
		left = append(left, next)
	}
	return left
}

func stopped(n *big.Int) *big.Int {
	least, greatest := big.NewInt(math.MinInt), big.NewInt(math.MaxInt)
	if n.Cmp(least) < 0 {
		return least
	}
	if n.Cmp(greatest) > 0 {
		return greatest
	}
	return n
}

// plainNeed is P15.4 of a list of what comes and what goes.
func plainNeed(moves [][2]int) int {
	balance, most := new(big.Int), new(big.Int)
	for _, m := range moves {
		come, gone := big.NewInt(int64(max(m[0], 0))), big.NewInt(int64(max(m[1], 0)))
		together := stopped(new(big.Int).Add(balance, come))
		if together.Cmp(most) > 0 {
			most = together
		}
		balance = stopped(new(big.Int).Sub(together, gone))
	}
	return int(most.Int64())
}

func plainly(m api.Merge, most int) api.Plan {
	left := plainLeft(m.Cells, most)
	slices.Sort(left)
	p := api.Plan{Left: left}
	var names, bytes [2][][2]int
	for i, c := range m.Cells {
		if slices.Contains(left, i) || c.What != api.Carry && c.What != api.Both || c.Side != api.SideA && c.Side != api.SideB {
			continue
		}
		item := api.Item{Number: len(p.Items) + 1, Cell: i, Path: c.Path, What: c.What, From: c.Side - 1, To: 2 - c.Side}
		if c.What == api.Both {
			item.Mode = c.Mode
		} else {
			names[item.To] = append(names[item.To], [2]int{c.Names, c.Had.Names})
			bytes[item.To] = append(bytes[item.To], [2]int{c.Bytes, c.Had.Bytes})
		}
		p.Items = append(p.Items, item)
	}
	for v := range p.Need {
		p.Need[v] = api.Room{Names: plainNeed(names[v]), Bytes: plainNeed(bytes[v])}
	}
	return p
}

// told writes a plan in a line: its items with number, place, path, what and from-to, what is left, and the needs.
func told(p api.Plan) string {
	var s []string
	for _, it := range p.Items {
		s = append(s, fmt.Sprintf("%d:%d %q what %d %d>%d mode %d", it.Number, it.Cell, it.Path, it.What, it.From, it.To, it.Mode))
	}
	return fmt.Sprintf("[%s] left %v need %v", strings.Join(s, ", "), p.Left, p.Need)
}

func samePlan(p, q api.Plan) bool {
	return slices.Equal(p.Items, q.Items) && slices.Equal(p.Left, q.Left) && p.Need == q.Need
}

// wantPlan holds what is answered against what is reckoned plainly.
func wantPlan(t *testing.T, m api.Merge, most int) {
	t.Helper()
	if got, want := Of(m, most), plainly(m, most); !samePlan(got, want) {
		t.Fatalf("most %d, %+v:\n%s, want\n%s", most, m.Cells, told(got), told(want))
	}
}

func wantLeft(t *testing.T, what string, m api.Merge, most int, want ...int) {
	t.Helper()
	if got := Of(m, most).Left; !slices.Equal(got, want) {
		t.Errorf("%s: most %d: left %v, want %v", what, most, got, want)
	}
	wantPlan(t, m, most)
}

func wantItems(t *testing.T, what string, m api.Merge, most int, want ...api.Item) {
	t.Helper()
	if got := Of(m, most).Items; !slices.Equal(got, want) {
		t.Errorf("%s: most %d: %+v, want %+v", what, most, got, want)
	}
	wantPlan(t, m, most)
}

func wantNeed(t *testing.T, what string, m api.Merge, want [2]api.Room) {
	t.Helper()
	if got := Of(m, api.MaxNodes).Need; got != want {
		t.Errorf("%s: %+v, want %+v", what, got, want)
	}
	wantPlan(t, m, api.MaxNodes)
}

// author makes merges by chance, the same ones each time.
type author struct{ *rand.Rand }

func newAuthor(seed int64) author { return author{rand.New(rand.NewSource(seed))} }

func (a author) of(l []int) int { return l[a.Intn(len(l))] }

// number is small mostly; wild: it may be any.
func (a author) number(wild bool) int {
	if wild && a.Intn(4) == 0 {
		return a.of([]int{math.MinInt, math.MinInt + 1, -api.MaxNodes, -2, -1, api.MaxNodes - 1, api.MaxNodes, api.MaxNodes + 1, math.MaxInt / 2, math.MaxInt - 1, math.MaxInt})
	}
	return a.Intn(5)
}

func (a author) cell(wild bool) api.Cell {
	what, side := 1+a.Intn(6), a.Intn(3)
	if a.Intn(2) == 0 {
		what, side = api.Carry, 1+a.Intn(2)
	}
	if wild && a.Intn(6) == 0 {
		what, side = a.of(everyWhat()), a.of(everySide())
	}
	return api.Cell{
		What: what, Side: side, Mode: a.number(wild), Keep: a.number(wild), Take: a.number(wild),
		Names: a.number(wild), Bytes: a.number(wild), Had: api.Room{Names: a.number(wild), Bytes: a.number(wild)},
	}
}

func (a author) merge(cells int, wild bool) api.Merge {
	var l []api.Cell
	for range a.Intn(cells + 1) {
		l = append(l, a.cell(wild))
	}
	return named(l...)
}

// most is near to what the cells keep and take, or any.
func (a author) most(m api.Merge) int {
	switch a.Intn(8) {
	case 0:
		return a.number(true)
	case 1:
		return 1 + a.Intn(4)
	}
	var all []int
	for i := range m.Cells {
		all = append(all, i)
	}
	least, greatest := plainWorst(m.Cells, all), plainWorst(m.Cells, nil)
	if !greatest.IsInt64() || greatest.Int64() > 1<<40 {
		return a.number(true)
	}
	return int(least.Int64()) - 2 + a.Intn(int(greatest.Int64()-least.Int64())+5)
}

// mirrored: with the sides of all cells exchanged.
func mirrored(m api.Merge) api.Merge {
	cells := slices.Clone(m.Cells)
	for i, c := range cells {
		switch c.Side {
		case api.SideA:
			cells[i].Side = api.SideB
		case api.SideB:
			cells[i].Side = api.SideA
		}
	}
	return merge(cells...)
}
