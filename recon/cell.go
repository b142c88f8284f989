package recon

import (
	"math"

	"twine/api"
	"twine/tree"
)

// cell tells what becomes of a spot, and how much of it there is.
func (m *merger) cell(s spot) api.Cell {
	what, side := m.judge(s)
	c := api.Cell{Path: s.path, What: what, Side: side, Keep: count(s.old)}
	switch what {
	case api.Agreed:
		c.Take = count(s.sides[0])
	case api.Conflict:
		c.Take = c.Keep
	case api.Carry:
		carried := room(s.side(side))
		c.Take, c.Names, c.Bytes = carried.Names, carried.Names, carried.Bytes
		c.Had = room(s.side(other(side)))
	case api.Both:
		c.What, c.Side, c.Mode = m.mode(s)
		c.Keep, c.Take = min(c.Keep, 1), 1
	case api.Kept:
		c.Mode = s.old.Value().Mode
		c.Keep, c.Take = 1, 1
	}
	return c
}

// mode tells what becomes of the mode of a directory that is on both sides. A directory's value is its mode and nothing else, so that values are held against each other whole.
func (m *merger) mode(s spot) (what, side, mode int) {
	a, b, o := valueOf(s.sides[0]), valueOf(s.sides[1]), valueOf(s.old)
	known := o.Mode != api.Unknown
	switch {
	case a == b:
		return api.Both, 0, a.Mode
	case known && a == o:
		return api.Both, api.SideB, b.Mode
	case known && b == o:
		return api.Both, api.SideA, a.Mode
	}
	if side := m.user.Prefer(s.path); side != 0 {
		return api.Both, side, s.side(side).Value().Mode
	}
	if o.Kind != api.Dir {
		return api.ModeConflict, 0, api.Unknown
	}
	return api.ModeConflict, 0, o.Mode
}

// count tells how many nodes there are, of nothing none.
func count(t *tree.Tree) int {
	if t == nil {
		return 0
	}
	return t.Count()
}

// room tells how many nodes there are, and the sizes of the files among them together.
func room(t *tree.Tree) api.Room { return api.Room{Names: count(t), Bytes: size(t)} }

// size stops at the greatest number, as the count of a tree does.
func size(t *tree.Tree) int {
	if t == nil {
		return 0
	}
	sum := 0
	if v := t.Value(); v.Kind == api.File {
		sum = v.Size
	}
	for _, kid := range t.Children() {
		sum += min(size(kid), math.MaxInt-sum)
	}
	return sum
}
