package scan

import (
	"fmt"
	"testing"

	"twine/api"
)

// wrongSum: a digest that no file here has. A file that is told with it was taken by its mark, unread.
var wrongSum = [32]byte{0xBA, 31: 0xD1}

// oldOf: an archive's tree with one thing in it, at d/f.
func oldOf(t *testing.T, n api.Node) api.Node {
	n.Name = "f"
	return api.Node{Value: api.Value{Kind: api.Dir, Mode: 7}, Kids: []api.Node{{Name: "d", Value: api.Value{Kind: api.Dir, Mode: 7}, Kids: []api.Node{n}}}}
}

// What the archive must have of a file for it to be quick.
func TestP12_3Quick(t *testing.T) {
	const size, number, stamp = 600, 9, 3
	told := api.Mark{Number: number, Stamp: stamp}
	value := api.Value{Kind: api.File, Mode: 6, Size: size, Sum: wrongSum}
	changed := func(f func(v *api.Value)) api.Value {
		v := value
		f(&v)
		return v
	}
	for _, c := range []struct {
		what  string
		value api.Value
		mark  api.Mark
		quick bool
	}{
		{"all as told", value, told, true},
		{"no mark", value, api.Mark{}, false},
		{"another number", value, api.Mark{Number: number + 1, Stamp: stamp}, false},
		{"a number below", value, api.Mark{Number: number - 1, Stamp: stamp}, false},
		{"another stamp", value, api.Mark{Number: number, Stamp: stamp + 1}, false},
		{"a stamp below", value, api.Mark{Number: number, Stamp: stamp - 1}, false},
		{"the two exchanged", value, api.Mark{Number: stamp, Stamp: number}, false},
		{"another size", changed(func(v *api.Value) { v.Size++ }), told, false},
		{"a size below", changed(func(v *api.Value) { v.Size-- }), told, false},
		{"another mode", changed(func(v *api.Value) { v.Mode = 7 }), told, false},
		{"an unknown mode", changed(func(v *api.Value) { v.Mode = api.Unknown }), told, false},
		{"a link", api.Value{Kind: api.Link, Size: size, Sum: wrongSum}, api.Mark{}, false},
		{"a directory", api.Value{Kind: api.Dir, Mode: 6}, api.Mark{}, false},
	} {
		for v := range 3 {
			for side := range 2 { // whose mark it is
				for _, clock := range []int{3, 4, 9} { // what is quick is so whatever the clock tells
					n := api.Node{Value: c.value}
					n.Marks[side] = c.mark
					w := worldOf(t, v, clock, dirAt("d", 7, 1, 1), fileAt("d/f", 6, text(size), number, stamp))
					s := New(w, v, ruled(t, ""), treeOf(t, oldOf(t, n)))
					quick := c.quick && v == side
					what := fmt.Sprintf("%s, volume %d, a mark of %d, clock %d", c.what, v, side, clock)

					steps, sum, listed := "/ /d /d/f /d/f", plainDigest([]byte(text(size))), 2+2
					var marks [2]api.Mark
					if clock > stamp && v < 2 {
						marks[v] = told
					}
					if quick {
						steps, sum, listed = "/ /d /d/f", wrongSum, 2
						marks[v] = told
					}
					wantText(t, what+": steps", toEnd(t, s), steps)
					x, _ := s.Tree().At("d/f")
					want(t, what, x, api.Value{Kind: api.File, Mode: 6, Size: size, Sum: sum})
					want(t, what+": marks", marksOf(t, s, "d/f"), marks)
					want(t, what+": Listed", s.Listed(), listed)
					m, isQuick, ok := s.Thing("d/f")
					want(t, what+": Thing", m, told)
					want(t, what+": Thing, quick", isQuick, quick)
					want(t, what+": Thing, there", ok, true)
				}
			}
		}
	}
}

// Both marks of the archive: this volume's counts, the other one's isn't told.
func TestP12_3OwnMark(t *testing.T) {
	n := api.Node{Value: api.Value{Kind: api.File, Mode: 6, Size: 3, Sum: wrongSum}, Marks: [2]api.Mark{{Number: 9, Stamp: 3}, {Number: 8, Stamp: 2}}}
	for v, x := range []api.Mark{{Number: 9, Stamp: 3}, {Number: 8, Stamp: 2}} {
		for other, y := range []api.Mark{{Number: 9, Stamp: 3}, {Number: 8, Stamp: 2}} {
			w := worldOf(t, v, 5, dirAt("d", 7, 1, 1), fileAt("d/f", 6, "abc", y.Number, y.Stamp))
			s := New(w, v, ruled(t, ""), treeOf(t, oldOf(t, n)))
			toEnd(t, s)
			var marks [2]api.Mark
			marks[v] = y
			want(t, "marks", marksOf(t, s, "d/f"), marks)
			_, quick, _ := s.Thing("d/f")
			want(t, fmt.Sprint("quick: ", x, y), quick, v == other)
		}
	}
}

// A file's mark is noted where its stamp is less than the clock in its first step, not behind that.
func TestP12_3Clock(t *testing.T) {
	for _, size := range []int{0, 1, 512, 513, 1300} {
		for v := range 3 {
			for _, clock := range []int{3, 4, 5} {
				for ticks := range 5 { // so many steps ahead of a tick
					w := worldOf(t, v, clock, fileAt("f", 6, text(size), 9, 3))
					s := New(w, v, ruled(t, ""), first(t))
					for i := 0; s.Step(); i++ {
						if i == ticks {
							w.Tick()
						}
					}
					var marks [2]api.Mark
					if v < 2 && (clock > 3 || ticks == 0) {
						marks[v] = api.Mark{Number: 9, Stamp: 3}
					}
					what := fmt.Sprintf("%d bytes, volume %d, clock %d, a tick behind %d", size, v, clock, ticks)
					want(t, what, marksOf(t, s, "f"), marks)
					m, _, ok := s.Thing("f")
					want(t, what+": Thing", m, api.Mark{Number: 9, Stamp: 3})
					want(t, what+": Thing, there", ok, true)
				}
			}
		}
	}
}

// A file that was written at the clock's own time isn't trusted, so that what is written at that time behind the scan is seen.
func TestP12_3WrittenBehind(t *testing.T) {
	w := worldOf(t, api.A, 5)
	wantOK(t, "a file", w.Edit(api.A, api.Edit{Kind: api.EditFile, Path: "f", Data: []byte("abc"), Mode: 6}))
	s := New(w, api.A, ruled(t, ""), first(t))
	toEnd(t, s)
	wantOK(t, "a write", w.Edit(api.A, api.Edit{Kind: api.EditWrite, Path: "f", Data: []byte("xyz")}))
	w.Tick()
	u := New(w, api.A, ruled(t, ""), s.Tree())
	toEnd(t, u)
	v, _ := u.Tree().At("f")
	want(t, "f", v.Sum, plainDigest([]byte("xyz")))
	x := New(w, api.A, ruled(t, ""), u.Tree())
	toEnd(t, x)
	_, quick, _ := x.Thing("f")
	want(t, "quick, then", quick, true)
}
