package outcome

import (
	"twine/api"
	"twine/tree"
)

// maker: of what a new archive is made: both scans and the old archive.
type maker struct{ a, b, o *tree.Tree }

// teller: what the new archive has at a cell's path, by how the cell ended; nil: nothing. Of a directory that is on both sides, or kept, it tells the directory alone: what is in it has cells of its own.
type teller func(c api.Cell, how int) *tree.Tree

// tellerOf tells the one for a kind of cell.
func (x maker) tellerOf(what int) teller {
	switch what {
	case api.Agreed:
		return x.agreed
	case api.Carry:
		return x.carried
	case api.Both:
		return x.both
	case api.ModeConflict:
		return x.modeConflict
	case api.Kept:
		return x.kept
	}
	return x.conflict
}

func (x maker) agreed(c api.Cell, how int) *tree.Tree {
	if how != api.HowNone {
		return sub(x.o, c.Path)
	}
	a := sub(x.a, c.Path)
	if a == nil {
		return nil
	}
	return notes{a, sub(x.b, c.Path)}.tree()
}

func (x maker) carried(c api.Cell, how int) *tree.Tree {
	switch {
	case how == api.HowPut && c.Side == api.SideA:
		return notes{api.A: sub(x.a, c.Path)}.tree()
	case how == api.HowPut && c.Side == api.SideB:
		return notes{api.B: sub(x.b, c.Path)}.tree()
	}
	return sub(x.o, c.Path)
}

func (x maker) conflict(c api.Cell, _ int) *tree.Tree { return sub(x.o, c.Path) }

func (x maker) both(c api.Cell, how int) *tree.Tree {
	done := api.HowNone
	if c.Side != 0 {
		done = api.HowPut
	}
	switch {
	case how == done:
		return directory(c.Mode)
	case x.isLeftOut(c, how):
		return nil
	}
	return directory(x.oldMode(c.Path))
}

func (x maker) modeConflict(c api.Cell, how int) *tree.Tree {
	if x.isLeftOut(c, how) {
		return nil
	}
	return directory(c.Mode)
}

func (x maker) kept(c api.Cell, _ int) *tree.Tree { return directory(c.Mode) }

// isLeftOut tells whether a directory that is on both sides stays out of the archive: there is no room for one that wasn't in it.
func (x maker) isLeftOut(c api.Cell, how int) bool {
	return how == api.HowLeft && sub(x.o, c.Path) == nil
}

// oldMode tells the mode of the old archive's directory at a path.
func (x maker) oldMode(p string) int {
	if v, _ := x.o.At(p); v.Kind == api.Dir {
		return v.Mode
	}
	return api.Unknown
}

// directory tells an empty one; nil, if that is no mode.
func directory(mode int) *tree.Tree {
	t, _ := tree.Of(api.Node{Value: api.Value{Kind: api.Dir, Mode: mode}})
	return t
}

// sub tells the subtree at a path, nil if nothing is there.
func sub(t *tree.Tree, p string) *tree.Tree {
	s, _ := t.Sub(p)
	return s
}
