package plan

import "twine/api"

// The sorts of cells that grow, in the order in which they are left out.
const (
	carried = iota
	settled // nothing is brought, but the archive would take more than it keeps
	sorts
)

// grower: a cell that grows: its place, and by how much the worst falls if it is left out.
type grower struct {
	place int
	fall  int64
}

// leaveOut tells of each cell whether it is left out, so that the worst is at most most, as far as that can be.
func leaveOut(cells []api.Cell, most int) []bool {
	left := make([]bool, len(cells))
	growing, worst := gather(cells, most)
leaving:
	for _, rest := range growing {
		for len(rest) > 0 {
			if worst <= int64(most) {
				break leaving
			}
			last := rest[len(rest)-1]
			rest = rest[:len(rest)-1]
			left[last.place] = true
			worst -= last.fall
		}
	}
	return left
}

// gather tells what grows, sort by sort, in the cells' order, and the worst of all cells.
func gather(cells []api.Cell, most int) (growing [sorts][]grower, worst int64) {
	for i, c := range cells {
		keep := share(c.Keep, most)
		greater := share(max(c.Keep, c.Take), most)
		worst += greater
		if sort, grows := sortOf(c); grows {
			growing[sort] = append(growing[sort], grower{place: i, fall: greater - keep})
		}
	}
	return growing, worst
}

// share tells a number as it goes into the worst. One that is above most makes the worst too great by itself, however far it is above; so it counts as one above. The sum never has to stop, then, and what was added to it can be taken off again.
func share(n, most int) int64 { return int64(min(n, most+1)) }

// sortOf tells by which sort a cell grows, if it does.
func sortOf(c api.Cell) (sort int, grows bool) {
	if c.Take <= c.Keep {
		return 0, false
	}
	switch c.What {
	case api.Carry:
		return carried, true
	case api.Agreed, api.Both, api.ModeConflict:
		return settled, true
	}
	return 0, false
}

// placesOf tells the places of those that are left out, rising.
func placesOf(left []bool) []int {
	var places []int
	for i, out := range left {
		if out {
			places = append(places, i)
		}
	}
	return places
}
