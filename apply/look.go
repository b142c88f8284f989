package apply

import (
	"slices"

	"twine/api"
	"twine/tree"
)

// look tells whether the place is as dst says. With an error the look has failed.
func (a *Apply) look() (bool, api.Errno) { return a.finds(a.item.Path, a.dst) }

// finds tells whether just t stands at p; nil: nothing does.
func (a *Apply) finds(p string, t *tree.Tree) (bool, api.Errno) {
	told, e := a.world.Stat(a.item.To, p)
	switch {
	case e == api.ErrWorldNone:
		return t == nil, api.OK
	case e == api.ErrWorldWay:
		return false, api.OK
	case e != api.OK:
		return false, e
	case !like(told, t):
		return false, api.OK
	}
	switch told.Kind {
	case api.File:
		return a.findsBytes(p, told, t.Value().Sum)
	case api.Link:
		return a.findsTarget(p, t.Value().Sum)
	}
	return a.findsKids(p, t)
}

func (a *Apply) findsBytes(p string, told api.Stat, sum [32]byte) (bool, api.Errno) {
	var sums []byte
	for off := 0; off < told.Size; off += api.Piece {
		piece, e := a.world.Read(a.item.To, p, told.Number, off, api.Piece)
		if e != api.OK {
			return false, e
		}
		sums = addSum(sums, piece)
	}
	return sha(sums) == sum, api.OK
}

func (a *Apply) findsTarget(p string, sum [32]byte) (bool, api.Errno) {
	target, e := a.world.Target(a.item.To, p)
	if e != api.OK {
		return false, e
	}
	var sums []byte
	for piece := range slices.Chunk([]byte(target), api.Piece) {
		sums = addSum(sums, piece)
	}
	return sha(sums) == sum, api.OK
}

func (a *Apply) findsKids(p string, t *tree.Tree) (bool, api.Errno) {
	names, e := a.world.List(a.item.To, p)
	if e != api.OK {
		return false, e
	}
	kids := kidsOf(t)
	if !slices.EqualFunc(names, kids, func(name string, k kid) bool { return name == k.name }) {
		return false, api.OK
	}
	for _, k := range kids {
		if same, e := a.finds(under(p, k.name), k.tree); !same {
			return false, e
		}
	}
	return true, api.OK
}

// like tells whether what was told of a thing is what t says of its root; what a kind hasn't is 0 on both sides. Nothing is like a tree of nothing.
func like(told api.Stat, t *tree.Tree) bool {
	if t == nil {
		return false
	}
	v := t.Value()
	return told.Kind == v.Kind && told.Mode == v.Mode && told.Size == v.Size
}
