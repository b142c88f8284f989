package patch

import (
	"twine/api"
	"twine/merkle"
	"twine/path"
	"twine/tree"
)

// place is what a directory is kept under: its path, and what it was.
type place struct {
	path string
	was  api.Value
}

// known: what was reckoned of a subtree.
type known struct {
	hash [32]byte
	top  *top // of a directory that has children
}

// draft: what will be kept behind a call. Up to the call's end the patch itself is as it was, so that a sum may ask it.
type draft struct {
	sum   func(b []byte) [32]byte
	fresh map[place]known
}

func drafting(sum func(b []byte) [32]byte) *draft {
	return &draft{sum: sum, fresh: map[place]known{}}
}

// learn reckons all of a subtree that stands at a name in the directory above.
func (d *draft) learn(above, name string, t *tree.Tree) known {
	if t.Value().Kind != api.Dir {
		return known{hash: merkle.By(d.sum).Root(t)}
	}
	p := below(above, name) // of directories alone: of all else nothing is kept by its path
	var kids []*top
	var b []byte // one memory for the nodes of all children: each gets its piece, closed off from the next one
	for name, kid := range t.Children() {
		k := d.learn(p, name, kid)
		from := len(b)
		b = putNode(b, name, kid, k)
		kids = append(kids, d.leaf(child{name, kid.Value(), b[from:len(b):len(b)]}, k.hash))
	}
	return d.keep(p, t.Value(), d.over(kids, nil, 0))
}

// climb reckons the directories above p anew, from the lowest one on. kept: what is kept of them; t: the tree as it will be; k: what is known of what stands at p there, if something does.
func (d *draft) climb(kept map[place]known, t *tree.Tree, p string, k known) {
	for p != "" {
		above, name := path.Above(p)
		dir, _ := t.Sub(above) // it is there: there was a way to p
		old := kept[place{above, dir.Value()}].top
		k = d.keep(above, dir.Value(), d.renewed(old, dir, name, k))
		p = above
	}
}

// renewed tells the top of a directory's children, of whom the one of that name has changed, has come or has gone.
func (d *draft) renewed(old *top, dir *tree.Tree, name string, k known) *top {
	kid, ok := dir.Sub(name)
	if !ok {
		return d.without(old, name)
	}
	node := putNode(nil, name, kid, k)
	return d.with(old, d.leaf(child{name, kid.Value(), node[:len(node):len(node)]}, k.hash))
}

// keep reckons a directory's hash from the top of its children.
func (d *draft) keep(p string, v api.Value, n *top) known {
	k := known{hash: d.ask(dirText(v.Mode, n)), top: n}
	d.fresh[place{p, v}] = k
	return k
}

// ask sums a text. From now on it is the sum's: nobody here looks at it again.
func (d *draft) ask(text []byte) [32]byte { return d.sum(text[:len(text):len(text)]) }

// below tells the path of q, which is one below p.
func below(p, q string) string {
	switch {
	case p == "":
		return q
	case q == "":
		return p
	}
	return path.Join([]string{p, q})
}
