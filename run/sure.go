package run

import (
	"cmp"
	"slices"

	"twine/api"
	"twine/path"
)

// file: a file of a replica whose bytes are to be made sure, and the place of the cell that speaks of it.
type file struct{ volume, number, stamp, cell int }

// gatherFiles adds to the files that were put those that were found; it takes no step.
func (c *course) gatherFiles() api.Reply {
	for i, cell := range c.merge.Cells {
		for _, v := range finders(cell, c.hows[i]) {
			c.addFound(v, i)
		}
	}
	slices.SortStableFunc(c.unsure, func(x, y file) int {
		return cmp.Or(cmp.Compare(x.volume, y.volume), cmp.Compare(x.number, y.number))
	})
	return api.Reply{}
}

// finders tells the volumes whose scans found what the new archive will have of a cell.
func finders(cell api.Cell, how int) []int {
	switch {
	case cell.What == api.Agreed && how == api.HowNone:
		return []int{api.A, api.B}
	case cell.What == api.Carry && how == api.HowPut && cell.Side == api.SideA:
		return []int{api.A}
	case cell.What == api.Carry && how == api.HowPut && cell.Side == api.SideB:
		return []int{api.B}
	}
	return nil
}

// addFound adds the files of a cell that a volume's scan read. Those that it took by their marks are sure since they have these.
func (c *course) addFound(v, cell int) {
	root := c.merge.Cells[cell].Path
	t := c.seen(v, root)
	if t == nil {
		return
	}
	for q := range t.All() {
		told, quick, isFile := c.scans[v].Thing(under(root, q))
		if isFile && !quick {
			c.unsure = append(c.unsure, file{volume: v, number: told.Number, stamp: told.Stamp, cell: cell})
		}
	}
}

func (c *course) secureFile() api.Reply {
	if len(c.unsure) == 0 {
		return api.Reply{}
	}
	f := c.unsure[0]
	c.unsure = c.unsure[1:]
	e := c.world.SyncThing(f.volume, f.number, f.stamp)
	if e != api.OK {
		c.hows[f.cell] = api.HowWeak
	}
	return api.Reply{Did: api.DidSure, Err: e}
}

func settling(v int) phase {
	return func(c *course) api.Reply {
		if e := c.world.SyncVolume(v); e != api.OK {
			return fault(e)
		}
		return api.Reply{Did: api.DidSure}
	}
}

// under tells the path of what is at q below root; either may be empty.
func under(root, q string) string {
	switch {
	case q == "":
		return root
	case root == "":
		return q
	}
	return path.Join([]string{root, q})
}
