package tree

import "twine/api"

// Fold reckons something from the leaves up.
func Fold[T any](t *Tree, f func(p string, v api.Value, m [2]api.Mark, names []string, below []T) T) T {
	w := fold[T]{f}
	return w.thing("", t)
}

// fold: what is asked of each thing.
type fold[T any] struct {
	ask func(p string, v api.Value, m [2]api.Mark, names []string, below []T) T
}

func (w fold[T]) thing(p string, t *Tree) T {
	names, told := gather(p, t, w.thing)
	return w.ask(p, t.value, t.marks, names, told)
}

// gather tells the names of t's children, and what down tells of each of them.
func gather[T any](p string, t *Tree, down func(p string, t *Tree) T) ([]string, []T) {
	names := make([]string, 0, t.kids.many())
	told := make([]T, 0, t.kids.many())
	for name, s := range t.Children() {
		names = append(names, name)
		told = append(told, down(below(p, name), s))
	}
	return names, told
}
