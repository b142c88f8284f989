package outcome

import (
	"twine/api"
	"twine/tree"
)

// notes: one subtree, as A's scan and as B's noted it; nil: of that side no marks are wanted.
type notes [2]*tree.Tree

// tree tells the subtree with the marks of those sides; nil of nothing.
func (n notes) tree() *tree.Tree {
	if n.one() == nil {
		return nil
	}
	t, _ := tree.Of(n.node(""))
	return t
}

// one tells the side's tree from which values are taken.
func (n notes) one() *tree.Tree {
	if n[api.A] != nil {
		return n[api.A]
	}
	return n[api.B]
}

func (n notes) node(name string) api.Node {
	t := n.one()
	raw := api.Node{Name: name, Value: t.Value()}
	if raw.Value.Kind == api.File {
		raw.Marks = n.marks()
	}
	for name := range t.Children() {
		raw.Kids = append(raw.Kids, n.kid(name).node(name))
	}
	return raw
}

// marks tells of each side its own mark.
func (n notes) marks() [2]api.Mark {
	var marks [2]api.Mark
	for side, t := range n {
		if t != nil {
			marks[side] = t.Marks()[side]
		}
	}
	return marks
}

func (n notes) kid(name string) notes {
	var kid notes
	for side, t := range n {
		if t != nil {
			kid[side] = sub(t, name)
		}
	}
	return kid
}
