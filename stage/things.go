package stage

import (
	"slices"

	"twine/api"
	"twine/path"
	"twine/tree"
)

// thing: what a step is at: where it comes from, where it goes, what it must be.
type thing struct {
	source, target string
	value          api.Value
}

// kid: a name, and what hangs on it.
type kid struct {
	name string
	tree *tree.Tree
}

// branch: the children of a directory that aren't done, rising. They are taken out of the tree when the directory itself is done, so that no list of all things is kept.
type branch struct {
	dir  string // a path of the tree
	kids []kid
}

// head tells where in the tree the next thing is, and its subtree; there is one.
func (s *Stage) head() (string, *tree.Tree) {
	b := s.todo[len(s.todo)-1]
	return under(b.dir, b.kids[0].name), b.kids[0].tree
}

func (s *Stage) next() thing {
	q, t := s.head()
	return thing{under(s.src, q), under(s.place, q), t.Value()}
}

// pass has the next thing done, and goes on to the one behind it.
func (s *Stage) pass() {
	q, t := s.head()
	last := len(s.todo) - 1
	s.todo[last].kids = s.todo[last].kids[1:]
	if len(s.todo[last].kids) == 0 {
		s.todo = slices.Delete(s.todo, last, last+1)
	}
	if kids := kidsOf(t); len(kids) > 0 {
		s.todo = append(s.todo, branch{q, kids})
	}
	if s.over() {
		s.end()
		return
	}
	s.choose()
}

// choose keeps what the first step at the next thing does.
func (s *Stage) choose() {
	_, t := s.head()
	switch t.Value().Kind {
	case api.Dir:
		s.do = (*Stage).bringDir
	case api.Link:
		s.do = (*Stage).bringLink
	default:
		s.do = (*Stage).beginFile
	}
}

func kidsOf(t *tree.Tree) []kid {
	var l []kid
	for name, sub := range t.Children() {
		l = append(l, kid{name, sub})
	}
	return l
}

// under tells the path of what is at q below root.
func under(root, q string) string {
	switch {
	case q == "":
		return root
	case root == "":
		return q
	}
	return path.Join([]string{root, q})
}
