package diff

import (
	"testing"

	"twine/api"
	"twine/tree"
)

func exampleFile(size int) api.Value { return api.Value{Kind: api.File, Mode: 6, Size: size} }

func exampleTrees(t *testing.T) (*tree.Tree, *tree.Tree) {
	t.Helper()
	x := of(t, dir("", 7, dir("d", 5, api.Node{Name: "f", Value: exampleFile(1)})))
	return x, of(t, dir("", 7, api.Node{Name: "d", Value: exampleFile(2)}))
}

func TestP13_1Example(t *testing.T) {
	x, y := exampleTrees(t)
	wantList(t, "Of(t, u)", all(x, y), []api.Change{{Path: "d", Old: dirValue(5), New: exampleFile(2)}, {Path: "d/f", Old: exampleFile(1)}})
}

func TestP13_2Example(t *testing.T) {
	x, y := exampleTrees(t)
	l := all(x, y)
	for what, c := range map[string]struct {
		l    []api.Change
		want api.Errno
	}{
		"the first change alone":              {l[:1], api.ErrDiffShape},
		"the second one ahead of the first":   {[]api.Change{l[1], l[0]}, api.ErrDiffOrder},
		"a change of d whose Old is a file":   {[]api.Change{{Path: "d", Old: exampleFile(2), New: dirValue(5)}}, api.ErrDiffOld},
		"a change of d from a file to a file": {[]api.Change{{Path: "d", Old: exampleFile(2), New: exampleFile(1)}}, api.ErrDiffOld},
		"all of it":                           {l, api.OK},
	} {
		if z, e := Apply(x, c.l); e != c.want || (z == nil) != (e != api.OK) {
			t.Errorf("%s: %d, want %d", what, e, c.want)
		}
	}
}

func TestP13_4Example(t *testing.T) {
	x, y := exampleTrees(t)
	if l, e := Then(all(x, y), all(y, x)); len(l) != 0 || e != api.OK {
		t.Errorf("%d, %s", e, told(l))
	}
}
