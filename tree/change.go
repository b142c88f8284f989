package tree

import (
	"twine/api"
	"twine/path"
)

// Put tells the tree with another subtree at a path.
func (t *Tree) Put(p string, s *Tree) (*Tree, api.Errno) {
	names, e := t.way(p)
	if e != api.OK {
		return nil, e
	}
	if len(names)+s.Depth() > api.MaxDepth {
		return nil, api.ErrTreeDeep
	}
	return t.with(names, s), api.OK
}

// Set tells the tree with another value and other marks at a path.
func (t *Tree) Set(p string, v api.Value, m [2]api.Mark) (*Tree, api.Errno) {
	names, e := t.way(p)
	if e != api.OK {
		return nil, e
	}
	old := t.down(names)
	if old == nil {
		return nil, api.ErrTreeNone
	}
	if e := ownFault(v, m, old.kids != nil); e != api.OK {
		return nil, e
	}
	return t.with(names, &Tree{value: v, marks: m, kids: old.kids}), api.OK
}

// Drop tells the tree without the subtree at a path.
func (t *Tree) Drop(p string) (*Tree, api.Errno) {
	names, e := t.way(p)
	switch {
	case e != api.OK:
		return nil, e
	case len(names) == 0:
		return nil, api.ErrTreeRoot
	case t.down(names) == nil:
		return nil, api.ErrTreeNone
	}
	return t.with(names, nil), api.OK
}

// way tells p's names, if the way to p is made of directories.
func (t *Tree) way(p string) ([]string, api.Errno) {
	names, e := path.Split(p, api.MaxDepth)
	if e != api.OK || len(names) == 0 {
		return nil, e
	}
	above := t.down(names[:len(names)-1])
	if above == nil || above.value.Kind != api.Dir {
		return nil, api.ErrTreeWay
	}
	return names, api.OK
}

// with tells the tree in which s (nil: nothing) is at names, to which there is a way. Only what is on the way is made anew.
func (t *Tree) with(names []string, s *Tree) *Tree {
	if len(names) == 0 {
		return s
	}
	changed := *t
	if kid := t.kids.find(names[0]).with(names[1:], s); kid != nil {
		changed.kids = t.kids.with(names[0], kid)
	} else {
		changed.kids = t.kids.without(names[0])
	}
	return &changed
}
