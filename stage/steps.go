package stage

import (
	"math"

	"twine/api"
	"twine/tree"
)

// counter: how many steps directories take that were counted, since one may hang at more places than could be gone through.
type counter map[*tree.Tree]int

// stepsOf tells how many steps a tree takes, if nothing comes between.
func stepsOf(t *tree.Tree) int { return counter{}.steps(t) }

// steps stops at the greatest number, as the count of a tree does.
func (c counter) steps(t *tree.Tree) int {
	n := own(t.Value())
	if t.Depth() == 0 {
		return n
	}
	if known, ok := c[t]; ok {
		return known
	}
	for _, sub := range t.Children() {
		n += min(c.steps(sub), math.MaxInt-n)
	}
	c[t] = n
	return n
}

// own tells how many steps a thing takes without what lies below it.
func own(v api.Value) int {
	if v.Kind != api.File || v.Size == 0 {
		return 1
	}
	return (v.Size-1)/api.Piece + 1
}
