package tree

import (
	"fmt"
	"maps"
	"math/rand"
	"slices"
	"testing"

	"twine/api"
)

// balanced holds the shape in which children are kept: were it lost, directories of many names would take the square of the time.
func balanced(t *testing.T, l *children) {
	t.Helper()
	if l == nil {
		return
	}
	if a, b := l.ahead.weight(), l.behind.weight(); a > lean*b || b > lean*a {
		t.Fatalf("%d children ahead, %d behind", a-1, b-1)
	}
	balanced(t, l.ahead)
	balanced(t, l.behind)
}

func TestP4_11Balanced(t *testing.T) {
	r := rand.New(rand.NewSource(11))
	s := of(t, file("", 1))
	for _, most := range []int{3, 10, 60, 400} {
		x, there := of(t, dir("", 7)), map[string]int{}
		for step := range 3000 {
			name := fmt.Sprintf("%03d", r.Intn(most))
			if step/500%2 == 1 && len(there) > 0 { // a part of the steps take away from one end
				name = slices.Sorted(maps.Keys(there))[0]
			}
			if _, ok := there[name]; ok && (step/500%2 == 1 || r.Intn(3) > 0) {
				x, _ = x.Drop(name)
				delete(there, name)
			} else {
				x, _ = x.Put(name, s)
				there[name] = 1
			}
			balanced(t, x.kids)
			if x.Count() != len(there)+1 || x.kids.many() != len(there) {
				t.Fatalf("%d things, %d names", x.Count(), len(there))
			}
		}
		if l := childNames(x); !slices.Equal(l, slices.Sorted(maps.Keys(there))) {
			t.Fatalf("%q", l)
		}
	}
	for n := range 200 {
		var l []api.Node
		for i := range n {
			l = append(l, file(fmt.Sprintf("%03d", i), 1))
		}
		balanced(t, of(t, dir("", 7, l...)).kids)
	}
}

// A directory of very many names, put one by one, rising, falling and mixed, and dropped again.
func TestP4_6ManyNames(t *testing.T) {
	const most = 1 << 16
	s := of(t, file("", 1))
	for _, step := range []int{1, most - 1, 40503} {
		x := of(t, dir("", 7))
		for i := range most {
			x, _ = x.Put(fmt.Sprintf("%05x", i*step%most), s)
		}
		if x.Count() != most+1 || x.Depth() != 1 {
			t.Fatalf("%d things", x.Count())
		}
		n := x.Node()
		for i, k := range n.Kids {
			if k.Name != fmt.Sprintf("%05x", i) {
				t.Fatalf("child %d: %q", i, k.Name)
			}
		}
		y := of(t, n)
		if !Same(x, y, false) {
			t.Error("not the same as at once")
		}
		for i := range most {
			x, _ = x.Drop(fmt.Sprintf("%05x", i*step%most))
		}
		if x.Count() != 1 || y.Count() != most+1 {
			t.Errorf("%d, %d things", x.Count(), y.Count())
		}
	}
}
