package tree

import (
	"twine/api"
	"twine/path"
)

// Check tells the first thing that may not be in a tree.
func Check(n api.Node) (string, api.Errno) {
	way, e := firstFault(&n, nil)
	return path.Join(way), e
}

// firstFault tells the names down to the first thing of n that can't be, and its error; way: the names down to n, whose own place is right.
func firstFault(n *api.Node, way []string) ([]string, api.Errno) {
	if e := ownFault(n.Value, n.Marks, len(n.Kids) > 0); e != api.OK {
		return way, e
	}
	for i := range n.Kids {
		down := append(way, n.Kids[i].Name)
		if e := placeFault(n.Kids, i, len(down)); e != api.OK {
			return down, e
		}
		if at, e := firstFault(&n.Kids[i], down); e != api.OK {
			return at, e
		}
	}
	return nil, api.OK
}

// placeFault tells why l[i] may not stand where it does, so many levels down.
func placeFault(l []api.Node, i, level int) api.Errno {
	if level > api.MaxDepth {
		return api.ErrTreeDeep
	}
	if e := path.Check(l[i].Name); e != api.OK {
		return e
	}
	if i > 0 && l[i].Name <= l[i-1].Name {
		return api.ErrTreeOrder
	}
	return api.OK
}

// ownFault tells why a thing may not be so, wherever it stands.
func ownFault(v api.Value, m [2]api.Mark, kids bool) api.Errno {
	switch {
	case v.Kind != api.Dir && v.Kind != api.File && v.Kind != api.Link:
		return api.ErrTreeKind
	case kids && v.Kind != api.Dir:
		return api.ErrTreeKind
	case !rightValue(v):
		return api.ErrTreeField
	case v.Kind == api.File && (!rightMark(m[0]) || !rightMark(m[1])):
		return api.ErrTreeField
	case v.Kind != api.File && m != [2]api.Mark{}:
		return api.ErrTreeField
	}
	return api.OK
}

func rightValue(v api.Value) bool {
	switch v.Kind {
	case api.Dir:
		return within(v.Mode, 0, api.Unknown) && v.Size == 0 && v.Sum == [32]byte{}
	case api.File:
		return within(v.Mode, 0, api.Unknown) && within(v.Size, 0, api.MaxSize)
	case api.Link:
		return v.Mode == 0 && within(v.Size, 1, api.MaxTarget)
	}
	return false
}

func rightMark(m api.Mark) bool {
	return m == api.Mark{} || within(m.Number, 1, api.MaxStamp) && within(m.Stamp, 1, api.MaxStamp)
}

func within(n, least, most int) bool { return least <= n && n <= most }
