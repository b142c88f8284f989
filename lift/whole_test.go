package lift

import (
	"bytes"
	"fmt"
	"math"
	"reflect"
	"slices"
	"testing"

	"twine/api"
	"twine/codec"
	"twine/tree"
)

// decoded: the tree of bytes that Decode is to take, as a version.
func decoded(t testing.TB, what string, b []byte, version, most int) *tree.Tree {
	t.Helper()
	x, v, err := codec.Decode(b, most)
	if err != nil || v != version {
		t.Fatalf("%s: version %d, %v, want version %d", what, v, err, version)
	}
	return x
}

// What is migrated decodes with the same most, as that version, to the same tree.
func TestP7_4SameTree(t *testing.T) {
	for name, n := range archives() {
		for from := 1; from <= 3; from++ {
			for _, most := range []int{countOf(n), countOf(n) + 1, api.MaxNodes, math.MaxInt} {
				b := fileOf(t, n, from)
				was := decoded(t, name, b, from, most)
				for to := from; to <= 3; to++ {
					what := fmt.Sprint(name, ", from ", from, " to ", to)
					got := decoded(t, what, migrated(t, what, b, to, most), to, most)
					isTree(t, what, got, was.Node())
					isTree(t, what, got, kept(n, from))
				}
			}
		}
	}
}

// An unknown mode stays unknown, a known one is there, and there is a mark only where one was told.
func TestP7_4NothingInventedNothingLost(t *testing.T) {
	n := dir("", 7, dir("d", 0), file("f", 6, 1, 1, 2, 3, 4), file("g", 8, 1, 0, 0, 3, 4), link("l", 1))
	modes := [4]map[string]int{
		1: {"": 8, "d": 8, "f": 8, "g": 8, "l": 0},
		2: {"": 7, "d": 0, "f": 6, "g": 8, "l": 0},
		3: {"": 7, "d": 0, "f": 6, "g": 8, "l": 0},
	}
	for from := 1; from <= 3; from++ {
		for to := from; to <= 3; to++ {
			what := fmt.Sprint("from ", from, " to ", to)
			x := decoded(t, what, migrated(t, what, fileOf(t, n, from), to, 9), to, 9)
			for p, v := range x.All() {
				if v.Mode != modes[from][p] {
					t.Errorf("%s, %q: mode %d", what, p, v.Mode)
				}
			}
			for i, name := range []string{"f", "g"} {
				var want [2]api.Mark
				if from == 3 {
					want = n.Kids[1+i].Marks
				}
				if s, _ := x.Sub(name); s.Marks() != want {
					t.Errorf("%s, %s: marks %v", what, name, s.Marks())
				}
			}
		}
	}
}

func TestP7_4ToItsOwnVersion(t *testing.T) {
	for name, n := range archives() {
		for version := 1; version <= 3; version++ {
			b := fileOf(t, n, version)
			for _, most := range []int{countOf(n), api.MaxNodes, math.MaxInt} {
				if got := migrated(t, name, b, version, most); !bytes.Equal(got, b) {
					t.Errorf("%s, version %d, most %d: other bytes", name, version, most)
				}
			}
		}
	}
}

// byWayOf2 looks that from a version to 3 is to 2, and that to 3.
func byWayOf2(t *testing.T, what string, b []byte, most int) {
	t.Helper()
	two := migrated(t, what, b, 2, most)
	if got, want := migrated(t, what, two, 3, most), migrated(t, what, b, 3, most); !bytes.Equal(got, want) || len(got) == 0 {
		t.Errorf("%s: % X by way of 2, % X else", what, got, want)
	}
}

func TestP7_5ByWayOf2(t *testing.T) {
	for name, n := range archives() {
		byWayOf2(t, name, fileOf(t, n, 1), countOf(n))
		byWayOf2(t, name, fileOf(t, n, 1), math.MaxInt)
	}
}

func TestP7_6DecodeOfEncode(t *testing.T) {
	for name, n := range archives() {
		x := of(t, n)
		for version := 1; version <= 3; version++ {
			b, e := codec.Encode(x, version, countOf(n))
			if e != api.OK {
				t.Fatal(e)
			}
			isTree(t, fmt.Sprint(name, ", version ", version), Project(x, version), decoded(t, name, b, version, countOf(n)).Node())
		}
	}
}

// A projection's file is that of the tree, in that version and in lesser ones.
func TestP7_6EncodeOfProject(t *testing.T) {
	for name, n := range archives() {
		for v := 1; v <= 3; v++ {
			for w := 1; w <= v; w++ {
				if !bytes.Equal(fileOf(t, Project(of(t, n), v).Node(), w), fileOf(t, n, w)) {
					t.Errorf("%s: of the projection to %d, in version %d: other bytes", name, v, w)
				}
			}
		}
	}
}

func TestP22_3Migrations(t *testing.T) {
	for name, n := range archives() {
		for from := 1; from <= 2; from++ {
			what := fmt.Sprint(name, ", from ", from)
			b := fileOf(t, n, from)
			lifted := migrated(t, what, b, 3, countOf(n))
			isTree(t, what, decoded(t, what, lifted, 3, countOf(n)), decoded(t, what, b, from, countOf(n)).Node())
			byWayOf2(t, what, b, countOf(n))
		}
	}
}

// cell: what becomes of a path, as DOC.md's section 'The merge' has it.
type cell struct {
	path       string
	what, side int
	mode       int
}

// merge: the cells of a merge without rules, of scans that could read all. Nothing is nil.
func merge(p string, a, b, o *tree.Tree) []cell {
	if !isDir(a) || !isDir(b) {
		return []cell{carried(p, a, b, o)}
	}
	l := []cell{modeCell(p, a, b, o)}
	for _, name := range names(a, b, o) {
		l = append(l, merge(p+"/"+name, kid(a, name), kid(b, name), kid(o, name))...)
	}
	return l
}

func isDir(t *tree.Tree) bool { return t != nil && t.Value().Kind == api.Dir }

func carried(p string, a, b, o *tree.Tree) cell {
	oldA, oldB := tree.Same(a, o, true), tree.Same(b, o, true)
	switch {
	case tree.Same(a, b, false):
		return cell{path: p, what: api.Agreed}
	case oldA && !oldB:
		return cell{path: p, what: api.Carry, side: api.SideB}
	case oldB && !oldA:
		return cell{path: p, what: api.Carry, side: api.SideA}
	}
	return cell{path: p, what: api.Conflict}
}

func modeCell(p string, a, b, o *tree.Tree) cell {
	am, bm, om := a.Value().Mode, b.Value().Mode, api.Unknown
	if isDir(o) {
		om = o.Value().Mode
	}
	switch {
	case am == bm:
		return cell{path: p, what: api.Both, mode: am}
	case om == am:
		return cell{p, api.Both, api.SideB, bm}
	case om == bm:
		return cell{p, api.Both, api.SideA, am}
	}
	return cell{path: p, what: api.ModeConflict, mode: om}
}

func kid(t *tree.Tree, name string) *tree.Tree {
	if t == nil {
		return nil
	}
	s, _ := t.Sub(name)
	return s
}

func names(l ...*tree.Tree) []string {
	var all []string
	for _, t := range l {
		if t != nil {
			for name := range t.Children() {
				all = append(all, name)
			}
		}
	}
	slices.Sort(all)
	return slices.Compact(all)
}

// small: roots of these modes with nothing in them, or one thing.
func small(modes ...int) []api.Node {
	var l []api.Node
	for _, mode := range modes {
		for _, below := range modes {
			l = append(l,
				dir("", mode, file("x", below, 1, 1, 2, 3, 4)),
				dir("", mode, file("x", below, 2)),
				dir("", mode, dir("x", below)),
				dir("", mode, dir("x", below, file("f", mode, 1, 0, 0, 5, 6), link("l", 1))))
		}
		l = append(l, dir("", mode), dir("", mode, link("x", 1)))
	}
	return l
}

// The merge of all small scans against a migrated archive is that against the one that was there; it isn't so against one whose unknown modes were filled in.
func TestP22_3Merge(t *testing.T) {
	var scans []*tree.Tree
	for _, n := range small(5, 7) {
		scans = append(scans, of(t, n))
	}
	seen := map[int]int{}
	otherwise := 0
	for _, n := range small(5, 7, api.Unknown) {
		for from := 1; from <= 2; from++ {
			b := fileOf(t, n, from)
			o := decoded(t, "the archive", b, from, 9)
			lifted := decoded(t, "the migrated one", migrated(t, "the archive", b, 3, 9), 3, 9)
			filled := of(t, fill7(o.Node()))
			for _, x := range scans {
				for _, y := range scans {
					want := merge("", x, y, o)
					if got := merge("", x, y, lifted); !reflect.DeepEqual(got, want) {
						t.Fatalf("from %d: %v, want %v", from, got, want)
					}
					if !reflect.DeepEqual(merge("", x, y, filled), want) {
						otherwise++
					}
					for _, c := range want {
						seen[c.what]++
					}
				}
			}
		}
	}
	if otherwise == 0 || len(seen) != 5 {
		t.Errorf("%d merges were others, cells %v", otherwise, seen)
	}
}

// fill7: raw data with 7 for each unknown mode.
func fill7(n api.Node) api.Node {
	if n.Value.Mode == api.Unknown {
		n.Value.Mode = 7
	}
	for i := range n.Kids {
		n.Kids[i] = fill7(n.Kids[i])
	}
	return n
}
