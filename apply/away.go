package apply

import (
	"slices"

	"twine/tree"
)

// kid: a name, and what hangs on it.
type kid struct {
	name string
	tree *tree.Tree
}

// branch: a thing that isn't removed, and its children that aren't looked into, rising. They are taken out of the tree when they are come to, so that no list of all things is kept.
type branch struct {
	path string
	kids []kid
}

func branchOf(p string, t *tree.Tree) branch { return branch{p, kidsOf(t)} }

// lastAway takes the last path out of what isn't removed; there is one.
func (a *Apply) lastAway() string {
	for a.lookInto() {
	}
	last := len(a.away) - 1
	p := a.away[last].path
	a.away = slices.Delete(a.away, last, last+1)
	return p
}

// lookInto goes down to the last child of what would be removed next; false: it has none.
func (a *Apply) lookInto() bool {
	last := len(a.away) - 1
	dir, n := a.away[last].path, len(a.away[last].kids)-1
	if n < 0 {
		return false
	}
	k := a.away[last].kids[n]
	a.away[last].kids = a.away[last].kids[:n]
	a.away = append(a.away, branchOf(under(dir, k.name), k.tree))
	return true
}

func kidsOf(t *tree.Tree) []kid {
	var l []kid
	for name, sub := range t.Children() {
		l = append(l, kid{name, sub})
	}
	return l
}
