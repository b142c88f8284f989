package lift

import (
	"fmt"
	"math"
	"testing"

	"twine/api"
	"twine/tree"
)

// others: numbers for which a projection is the tree itself.
func others() []int {
	return []int{0, 3, 4, 5, 8, 127, 128, 255, 256, 257, 258, 1<<16 + 1, 1<<16 + 2, 1<<32 + 1, 1<<32 + 2, math.MaxInt32, math.MaxInt - 1, math.MaxInt, -1, -2, -3, -255, -254, -256 + 1, -256 + 2, math.MinInt32, math.MinInt, math.MinInt + 1, math.MinInt + 2}
}

func TestP7_Example1(t *testing.T) {
	n := dir("", 7, file("f", 6, 3, 4, 5, 6, 7))
	x := of(t, n)
	for version, want := range map[int]api.Node{
		1: dir("", 8, file("f", 8, 3)),
		2: dir("", 7, file("f", 6, 3)),
		3: n,
	} {
		isTree(t, fmt.Sprint("for ", version), Project(x, version), want)
	}
}

func TestP7_1EachTree(t *testing.T) {
	for name, n := range trees() {
		x := of(t, n)
		for version := 1; version <= 3; version++ {
			isTree(t, fmt.Sprint(name, ", for ", version), Project(x, version), kept(n, version))
		}
		isTree(t, name+", behind it", x, n)
	}
}

func TestP7_1OtherNumbers(t *testing.T) {
	for name, n := range trees() {
		x := of(t, n)
		for _, version := range others() {
			isTree(t, fmt.Sprint(name, ", for ", version), Project(x, version), n)
		}
	}
}

func TestP7_1Roots(t *testing.T) {
	for _, c := range []struct {
		n, one, two api.Node
	}{
		{dir("", 0), dir("", 8), dir("", 0)},
		{dir("", 8), dir("", 8), dir("", 8)},
		{file("", 6, 5, 1, 2, 3, 4), file("", 8, 5), file("", 6, 5)},
		{file("", 8, 5, 0, 0, 3, 4), file("", 8, 5), file("", 8, 5)},
		{link("", 5), link("", 5), link("", 5)},
	} {
		isTree(t, "for 1", Project(of(t, c.n), 1), c.one)
		isTree(t, "for 2", Project(of(t, c.n), 2), c.two)
		isTree(t, "for 3", Project(of(t, c.n), 3), c.n)
	}
}

// A link has no mode, and gets none.
func TestP7_1Links(t *testing.T) {
	n := dir("", 7, dir("d", 7, link("l", 1)), link("l", api.MaxTarget))
	x := of(t, n)
	for version := 1; version <= 3; version++ {
		y := Project(x, version)
		for _, p := range []string{"l", "d/l"} {
			v, ok := y.At(p)
			if was, _ := x.At(p); !ok || v != was || v.Mode != 0 {
				t.Errorf("for %d, %s: %+v", version, p, v)
			}
		}
	}
}

// Each mode by itself: known or not, at the root, at a directory and at a file.
func TestP7_1Modes(t *testing.T) {
	for root := range api.Unknown + 1 {
		for below := range api.Unknown + 1 {
			n := dir("", root, dir("d", below), file("f", below, 1, 1, 1, 1, 1))
			isTree(t, "for 1", Project(of(t, n), 1), dir("", 8, dir("d", 8), file("f", 8, 1)))
			isTree(t, "for 2", Project(of(t, n), 2), dir("", root, dir("d", below), file("f", below, 1)))
		}
	}
}

// Marks of one file say nothing of another one's.
func TestP7_1Marks(t *testing.T) {
	marks := [][]int{{0, 0, 0, 0}, {1, 2, 0, 0}, {0, 0, 3, 4}, {1, 2, 3, 4}, {api.MaxStamp, api.MaxStamp, api.MaxStamp, api.MaxStamp}}
	for _, m := range marks {
		for _, k := range marks {
			n := dir("", 7, dir("d", 7, file("f", 6, 1, m...)), file("f", 6, 2, k...))
			bare := dir("", 7, dir("d", 7, file("f", 6, 1)), file("f", 6, 2))
			isTree(t, "for 1", Project(of(t, n), 1), dir("", 8, dir("d", 8, file("f", 8, 1)), file("f", 8, 2)))
			isTree(t, "for 2", Project(of(t, n), 2), bare)
			isTree(t, "for 3", Project(of(t, n), 3), n)
		}
	}
}

// What a version has no word of isn't the sizes, the digests, the names, or what stands where.
func TestP7_1AllElseStays(t *testing.T) {
	for name, n := range trees() {
		x := of(t, n)
		for version := 1; version <= 2; version++ {
			y := Project(x, version)
			if y.Count() != x.Count() || y.Depth() != x.Depth() {
				t.Errorf("%s, for %d: %d things, depth %d", name, version, y.Count(), y.Depth())
			}
			for p, v := range x.All() {
				w, ok := y.At(p)
				if !ok || w.Kind != v.Kind || w.Size != v.Size || w.Sum != v.Sum {
					t.Errorf("%s, for %d, %q: %+v", name, version, p, w)
				}
			}
			if !tree.Same(x, y, true) || version == 2 && !tree.Same(x, y, false) {
				t.Errorf("%s, for %d: not the same", name, version)
			}
		}
	}
}

// The tree that is handed in stays as it was, whatever is made of the answer.
func TestP7_1TreeStays(t *testing.T) {
	x := of(t, some())
	for version := 0; version <= 4; version++ {
		y := Project(x, version)
		want := y.Node()
		z, e := y.Put("a/c", of(t, link("", 5)))
		if e != api.OK {
			t.Fatal(e)
		}
		z.Drop("a")
		z.Set("", api.Value{Kind: api.Dir, Mode: 1}, [2]api.Mark{})
		isTree(t, fmt.Sprint("the answer for ", version), y, want)
		isTree(t, "the tree", x, some())
	}
}

// A tree that was made by changes, one subtree standing in it at several places.
func TestP7_1SharedSubtrees(t *testing.T) {
	s := of(t, some())
	x := of(t, dir("", 7))
	want := dir("", 7)
	for _, name := range []string{"a", "b", "c"} {
		y, e := x.Put(name, s)
		if e != api.OK {
			t.Fatal(e)
		}
		x = y
		kid := some()
		kid.Name = name
		want.Kids = append(want.Kids, kid)
	}
	for version := 1; version <= 3; version++ {
		isTree(t, fmt.Sprint("for ", version), Project(x, version), kept(want, version))
	}
	isTree(t, "a subtree", s, some())
}

func TestP7_1Many(t *testing.T) {
	n := wide(20000)
	for version := 1; version <= 3; version++ {
		isTree(t, fmt.Sprint("for ", version), Project(of(t, n), version), kept(n, version))
	}
}

func TestP7_6ProjectBehindProject(t *testing.T) {
	for name, n := range trees() {
		x := of(t, n)
		for v := 1; v <= 3; v++ {
			for w := 1; w <= 3; w++ {
				what := fmt.Sprint(name, ", ", v, ", ", w)
				got := Project(Project(x, v), w)
				isTree(t, what, got, Project(x, min(v, w)).Node())
				isTree(t, what, got, kept(n, min(v, w)))
			}
		}
	}
}
