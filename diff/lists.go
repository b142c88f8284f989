package diff

import (
	"iter"

	"twine/api"
	"twine/path"
)

// sideBySide gives the parts of two lists that rise, in their order: those that are alike as a pair, each other one with nil for the list that hasn't it.
func sideBySide[T any](a, b []T, compare func(x, y *T) int) iter.Seq2[*T, *T] {
	return func(yield func(x, y *T) bool) {
		for i, j := 0, 0; i < len(a) || j < len(b); {
			var x, y *T
			order := 0
			switch {
			case i == len(a):
				order = 1
			case j == len(b):
				order = -1
			default:
				order = compare(&a[i], &b[j])
			}
			if order <= 0 {
				x = &a[i]
				i++
			}
			if order >= 0 {
				y = &b[j]
				j++
			}
			if !yield(x, y) {
				return
			}
		}
	}
}

func comparePaths(c, other *api.Change) int { return path.Compare(c.Path, other.Path) }

// rises tells whether a list's paths are paths and rise, and each of its changes changes something.
func rises(l []api.Change) bool {
	for i, c := range l {
		if _, e := path.Split(c.Path, api.MaxDepth); e != api.OK || c.Old == c.New {
			return false
		}
		if i > 0 && comparePaths(&l[i-1], &c) >= 0 {
			return false
		}
	}
	return true
}

// Turn turns a list's changes round.
func Turn(l []api.Change) []api.Change {
	turned := make([]api.Change, 0, len(l))
	for _, c := range l {
		turned = append(turned, api.Change{Path: c.Path, Old: c.New, New: c.Old})
	}
	return turned
}

// Then joins two lists into one.
func Then(a, b []api.Change) ([]api.Change, api.Errno) {
	if !rises(a) || !rises(b) {
		return nil, api.ErrDiffOrder
	}
	var joined []api.Change
	for x, y := range sideBySide(a, b, comparePaths) {
		switch {
		case y == nil:
			joined = append(joined, *x)
		case x == nil:
			joined = append(joined, *y)
		case x.New != y.Old:
			return nil, api.ErrDiffOld
		case x.Old != y.New:
			joined = append(joined, api.Change{Path: x.Path, Old: x.Old, New: y.New})
		}
	}
	return joined, api.OK
}
