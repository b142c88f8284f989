package tree

import (
	"testing"

	"twine/api"
)

// openTrees: trees over the name a and b whose things differ in one field each, modes unknown or not.
func openTrees() []api.Node {
	other := file("", 3)
	other.Value.Sum[5]++
	mode, unknown := file("", 3), file("", 3)
	mode.Value.Mode, unknown.Value.Mode = 7, api.Unknown
	leaves := []api.Node{dir("", 6), dir("", 7), dir("", api.Unknown), marked("", 3, 1, 2), file("", 3), file("", 4), other, mode, unknown, link("", 3), link("", 4)}
	l := append([]api.Node{}, leaves...)
	for _, top := range []int{6, 7, api.Unknown} {
		for i, n := range leaves {
			l = append(l, dir("", top, named("a", n)), dir("", top, named("b", n)), dir("", top, named("a", n), named("b", leaves[(i+1)%len(leaves)])), dir("", top, named("a", dir("", top, named("b", n)))))
		}
	}
	return l
}

// plainSame goes by P4.9, path by path.
func plainSame(t, u map[string]thing, open bool) bool {
	if len(t) != len(u) {
		return false
	}
	for p, v := range t {
		w, ok := u[p]
		if !ok || v.v.Kind != w.v.Kind || v.v.Size != w.v.Size || v.v.Sum != w.v.Sum {
			return false
		}
		if v.v.Mode != w.v.Mode && !(open && w.v.Mode == api.Unknown && w.v.Kind != api.Link) {
			return false
		}
	}
	return true
}

func TestP4_9AllPairs(t *testing.T) {
	l := append(openTrees(), smallTrees(1)...)
	for _, n := range l {
		for _, o := range l {
			for _, open := range []bool{false, true} {
				if got := Same(of(t, n), of(t, o), open); got != plainSame(flat(n), flat(o), open) {
					t.Fatalf("%v, %v, %v: %v", n, o, open, got)
				}
			}
		}
	}
}

func TestP4_9Deeper(t *testing.T) {
	l := smallTrees(2)
	for i, n := range l {
		for j := i % 7; j < len(l); j += 7 {
			if got := Same(of(t, n), of(t, l[j]), true); got != plainSame(flat(n), flat(l[j]), true) {
				t.Fatalf("%v, %v: %v", n, l[j], got)
			}
		}
	}
	if !Same(of(t, sample()), of(t, sample()), false) || !Same(deepest(t), deepest(t), false) {
		t.Error("two that are equal")
	}
}

func TestP4_9Unknown(t *testing.T) {
	known, unknown, mixed := of(t, dir("", 7, dir("d", 5))), of(t, dir("", 8, dir("d", 8))), of(t, dir("", 7, dir("d", 8)))
	for i, c := range []struct {
		t, u *Tree
		want bool
	}{
		{known, unknown, true}, {unknown, known, false}, {known, mixed, true}, {mixed, known, false}, {mixed, unknown, true}, {unknown, mixed, false}, {unknown, unknown, true},
	} {
		if Same(c.t, c.u, true) != c.want || Same(c.t, c.u, false) != (c.t == c.u) {
			t.Errorf("row %d", i)
		}
	}
}

func TestP4_9Nil(t *testing.T) {
	for _, open := range []bool{false, true} {
		if !Same(nil, nil, open) {
			t.Error("nil and nil")
		}
		for _, n := range []api.Node{dir("", 0), dir("", 8), file("", 0), link("", 1), sample()} {
			if Same(nil, of(t, n), open) || Same(of(t, n), nil, open) {
				t.Errorf("nil and %v", n)
			}
		}
	}
}

func TestP4_9Marks(t *testing.T) {
	for _, open := range []bool{false, true} {
		if !Same(of(t, dir("", 7, marked("a", 3, 1, 2))), of(t, dir("", 7, marked("a", 3, 4, 5))), open) || !Same(of(t, marked("", 3, 1, 2)), of(t, file("", 3)), open) {
			t.Error("marks are looked at")
		}
	}
}

// Trees that came by other ways are the same, however they are kept.
func TestP4_9OtherWays(t *testing.T) {
	l := []string{"e", "a", "c", "b", "d", "g", "f"}
	x, y := of(t, dir("", 7)), of(t, dir("", 7))
	for i := range l {
		x, _ = x.Put(l[i], of(t, file("", 3)))
		y, _ = y.Put(l[len(l)-1-i], of(t, file("", 3)))
	}
	if !Same(x, y, false) || !Same(y, x, false) {
		t.Error("the order of Puts shows")
	}
	z, _ := y.Drop("a")
	w, _ := z.Put("aa", of(t, file("", 3)))
	if Same(x, z, false) || Same(z, x, false) || Same(x, w, false) || Same(w, x, false) {
		t.Error("another name")
	}
}

func unmarked(n api.Node) api.Node {
	n.Marks = [2]api.Mark{}
	l := n.Kids
	n.Kids = nil
	for _, k := range l {
		n.Kids = append(n.Kids, unmarked(k))
	}
	return n
}

func TestP4_13Closed(t *testing.T) {
	l := append(openTrees(), smallTrees(1)...)
	for _, n := range l {
		x := of(t, n)
		for _, o := range l {
			y := of(t, o)
			if got := Same(x, y, false); got != sameNode(unmarked(x.Node()), unmarked(y.Node())) || got != Same(y, x, false) {
				t.Fatalf("%v, %v: %v", n, o, got)
			}
		}
	}
}

func TestP4_13GoesOn(t *testing.T) {
	var l []*Tree
	for _, n := range openTrees() {
		l = append(l, of(t, n))
	}
	for _, open := range []bool{false, true} {
		for _, x := range l {
			for _, y := range l {
				if !Same(x, y, open) {
					continue
				}
				for _, z := range l {
					if Same(y, z, open) && !Same(x, z, open) {
						t.Fatalf("%v, %v, %v", x.Node(), y.Node(), z.Node())
					}
				}
			}
		}
	}
}
