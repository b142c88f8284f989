package tree

import (
	"cmp"
	"math"
	"strings"

	"twine/api"
)

// child: a name, and what hangs on it.
type child struct {
	name string
	tree *Tree
}

// children: a directory's children as a tree of search by name; nil: none. It never changes; another one is made along the way to what differs, so that a directory of many names isn't copied for one of them.
type children struct {
	child
	ahead, behind *children
	size          int // how many children
	count         int // how many things, they and all below them
	deep          int // how many names the longest path has, theirs counted
}

// A side may weigh at most lean times the other one; one that weighs more is turned at its outer half, or, if its inner half weighs inner times the outer one, at the inner half's middle. With 3 and 2, and a weight of one more than the children, one turn is known to do after one child came or went.
const (
	lean  = 3
	inner = 2
)

func (l *children) many() int {
	if l == nil {
		return 0
	}
	return l.size
}

func (l *children) weight() int { return l.many() + 1 }

func (l *children) things() int {
	if l == nil {
		return 0
	}
	return l.count
}

func (l *children) levels() int {
	if l == nil {
		return 0
	}
	return l.deep
}

// add stops at the greatest number: one subtree may be put at so many places that no int tells how many things there are.
func add(a, b int) int {
	if a > math.MaxInt-b {
		return math.MaxInt
	}
	return a + b
}

// childrenOf tells the children of raw data that rises by name.
func childrenOf(l []api.Node) *children {
	if len(l) == 0 {
		return nil
	}
	half := len(l) / 2
	return join(childrenOf(l[:half]), child{l[half].Name, made(&l[half])}, childrenOf(l[half+1:]))
}

func join(ahead *children, c child, behind *children) *children {
	return &children{
		child:  c,
		ahead:  ahead,
		behind: behind,
		size:   ahead.many() + 1 + behind.many(),
		count:  add(c.tree.Count(), add(ahead.things(), behind.things())),
		deep:   max(ahead.levels(), c.tree.Depth()+1, behind.levels()),
	}
}

func (l *children) find(name string) *Tree {
	for l != nil {
		switch cmp.Compare(name, l.name) {
		case 0:
			return l.tree
		case -1:
			l = l.ahead
		default:
			l = l.behind
		}
	}
	return nil
}

// each tells whether the iterator is to go on behind l.
func (l *children) each(yield func(string, *Tree) bool) bool {
	return l == nil || l.ahead.each(yield) && yield(l.name, l.tree) && l.behind.each(yield)
}

// with tells l with t by that name, in place of the one that has it, if there is one.
func (l *children) with(name string, t *Tree) *children {
	if l == nil {
		// A name that was cut out of a path would keep all of the path in memory.
		return join(nil, child{strings.Clone(name), t}, nil)
	}
	switch cmp.Compare(name, l.name) {
	case 0:
		return join(l.ahead, child{l.name, t}, l.behind)
	case -1:
		return even(l.ahead.with(name, t), l.child, l.behind)
	}
	return even(l.ahead, l.child, l.behind.with(name, t))
}

// without tells l without the child of that name.
func (l *children) without(name string) *children {
	if l == nil {
		return nil
	}
	switch cmp.Compare(name, l.name) {
	case 0:
		return l.ahead.followed(l.behind)
	case -1:
		return even(l.ahead.without(name), l.child, l.behind)
	}
	return even(l.ahead, l.child, l.behind.without(name))
}

// followed tells all of l and of behind, whose names are above l's.
func (l *children) followed(behind *children) *children {
	if behind == nil {
		return l
	}
	c, rest := behind.cut()
	return even(l, c, rest)
}

// cut tells the first child, and the others.
func (l *children) cut() (child, *children) {
	if l.ahead == nil {
		return l.child, l.behind
	}
	c, rest := l.ahead.cut()
	return c, even(rest, l.child, l.behind)
}

// even joins two sides, one of which may have got or lost a child since neither was too heavy for the other.
func even(ahead *children, c child, behind *children) *children {
	switch {
	case behind.weight() > lean*ahead.weight():
		return turnAhead(ahead, c, behind)
	case ahead.weight() > lean*behind.weight():
		return turnBehind(ahead, c, behind)
	}
	return join(ahead, c, behind)
}

func turnAhead(ahead *children, c child, b *children) *children {
	mid := b.ahead
	if mid.weight() < inner*b.behind.weight() {
		return join(join(ahead, c, mid), b.child, b.behind)
	}
	return join(join(ahead, c, mid.ahead), mid.child, join(mid.behind, b.child, b.behind))
}

func turnBehind(a *children, c child, behind *children) *children {
	mid := a.behind
	if mid.weight() < inner*a.ahead.weight() {
		return join(a.ahead, a.child, join(mid, c, behind))
	}
	return join(join(a.ahead, a.child, mid.ahead), mid.child, join(mid.behind, c, behind))
}
