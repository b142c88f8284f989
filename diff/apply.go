package diff

import (
	"slices"

	"twine/api"
	"twine/tree"
)

// Apply makes a list's changes in a tree.
func Apply(t *tree.Tree, l []api.Change) (*tree.Tree, api.Errno) {
	if !rises(l) {
		return nil, api.ErrDiffOrder
	}
	if !startsFrom(t, l) {
		return nil, api.ErrDiffOld
	}
	t, e := cleared(t, l)
	if e == api.OK {
		t, e = laid(t, l)
	}
	if e != api.OK {
		return nil, api.ErrDiffShape
	}
	return t, api.OK
}

// startsFrom tells whether t has what the changes say that was there.
func startsFrom(t *tree.Tree, l []api.Change) bool {
	for _, c := range l {
		if v, _ := t.At(c.Path); v != c.Old {
			return false
		}
	}
	return true
}

// cleared tells t without what goes. It goes from the last path on, and ahead of all that comes: so a directory is empty when its turn comes, to go or to be no directory any more, unless something is to stay in it.
func cleared(t *tree.Tree, l []api.Change) (*tree.Tree, api.Errno) {
	for _, c := range slices.Backward(l) {
		if c.New != (api.Value{}) {
			continue
		}
		if s, ok := t.Sub(c.Path); ok && s.Depth() > 0 {
			return nil, api.ErrDiffShape
		}
		var e api.Errno
		if t, e = t.Drop(c.Path); e != api.OK {
			return nil, e
		}
	}
	return t, api.OK
}

// laid tells t, from which all is gone that goes, with what comes. Rising, so that the way to a path is as it is to be when its turn comes.
func laid(t *tree.Tree, l []api.Change) (*tree.Tree, api.Errno) {
	for _, c := range l {
		if c.New == (api.Value{}) {
			continue
		}
		var e api.Errno
		if t, e = lay(t, c); e != api.OK {
			return nil, e
		}
	}
	return t, api.OK
}

// lay tells t with a change's new value, without marks. That a value can't be, or can't stand there, layer 4 tells.
func lay(t *tree.Tree, c api.Change) (*tree.Tree, api.Errno) {
	if c.Old != (api.Value{}) {
		return t.Set(c.Path, c.New, [2]api.Mark{})
	}
	s, e := tree.Of(api.Node{Value: c.New})
	if e != api.OK {
		return nil, e
	}
	return t.Put(c.Path, s)
}
