package patch

import (
	"math/bits"
	"slices"

	"twine/api"
)

// top stands over one child of a directory, or over several that follow one another. It never changes: what a Replace doesn't touch is in the new tops, too.
type top struct {
	sum         [32]byte
	count       int
	first       *child
	left, right *top // of several
}

// child: what a directory keeps of one of its children.
type child struct {
	name  string
	value api.Value
	node  []byte // its own, without those below it
}

// leaf tells the top of one child.
func (d *draft) leaf(c child, hash [32]byte) *top {
	return &top{sum: d.ask(leafText(c.name, hash)), count: 1, first: &c}
}

// inner tells the top that puts two together.
func (d *draft) inner(left, right *top) *top {
	return &top{
		sum:   d.ask(innerText(left.sum, right.sum)),
		count: left.count + right.count,
		first: left.first,
		left:  left,
		right: right,
	}
}

// over tells the top of children. old: what stood over children from the same place on, if something did; the first same of these are the same still, so that what stood over them alone stays.
func (d *draft) over(kids []*top, old *top, same int) *top {
	n := len(kids)
	for old.size() > 1 && old.left.count >= n {
		old = old.left
	}
	switch {
	case n == 0:
		return nil
	case n <= same && n == old.size():
		return old
	case n == 1:
		return kids[0]
	}
	k := half(n)
	first, others := old, (*top)(nil)
	if old.size() > k { // then it was parted behind the first k, too
		first, others = old.left, old.right
	}
	return d.inner(d.over(kids[:k], first, same), d.over(kids[k:], others, same-k))
}

// half is the greatest power of two below n; n is 2 or more.
func half(n int) int { return 1 << (bits.Len(uint(n-1)) - 1) }

// with tells the top in which a child's leaf is among the others, in the place of one of its name, if there is one.
func (d *draft) with(n, leaf *top) *top {
	i, found := n.find(leaf.first.name)
	if found {
		return d.exchanged(n, i, leaf)
	}
	return d.over(slices.Insert(n.leaves(nil), i, leaf), n, i)
}

// without tells the top of the children but one, that is there.
func (d *draft) without(n *top, name string) *top {
	i, _ := n.find(name)
	return d.over(slices.Delete(n.leaves(nil), i, i+1), n, i)
}

// exchanged tells the top in which another leaf is in the place of number i: only what stands over it is summed anew.
func (d *draft) exchanged(n *top, i int, leaf *top) *top {
	switch {
	case n.left == nil:
		return leaf
	case i < n.left.count:
		return d.inner(d.exchanged(n.left, i, leaf), n.right)
	}
	return d.inner(n.left, d.exchanged(n.right, i-n.left.count, leaf))
}

// find tells how many children stand ahead of a name, and whether there is one of that name.
func (n *top) find(name string) (int, bool) {
	if n == nil {
		return 0, false
	}
	i := 0
	for n.left != nil {
		if name < n.right.first.name {
			n = n.left
		} else {
			i += n.left.count
			n = n.right
		}
	}
	if n.first.name < name {
		i++
	}
	return i, n.first.name == name
}

// leaves tells the tops of the children one by one, behind those that are in l.
func (n *top) leaves(l []*top) []*top {
	switch {
	case n == nil:
		return l
	case n.left == nil:
		return append(l, n)
	}
	return n.right.leaves(n.left.leaves(l))
}

// size tells over how many children a top stands; nil: none.
func (n *top) size() int {
	if n == nil {
		return 0
	}
	return n.count
}
