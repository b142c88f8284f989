package stage

import (
	"fmt"
	"math/rand"
	"strings"
	"testing"

	"twine/api"
	"twine/tree"
	"twine/world"
)

// brought looks that what stands at a place is a tree's, and that all bytes there are sure, behind each fall, too, once the names are.
func brought(t testing.TB, what string, w *world.World, v int, place string, x *tree.Tree) {
	t.Helper()
	wantText(t, what, pictured(w, v, place), values(x))
	for _, y := range w.Image(v) {
		if lies(y.Path, place) && y.Kind == api.File {
			want(t, what+": "+y.Path+": sure", y.Sure, len(y.Data))
		}
	}
	c := w.Copy()
	c.Rig(v, 0, 0, 0, false)
	wantOK(t, what, c.SyncVolume(v))
	wantText(t, what+", behind a fall", pictured(c.After([3]int{}, [3][]int{}), v, place), values(x))
}

// Whatever users do to the source: if the last step is done, the tree stands at the place.
func TestP16_4EachEditAtEachStep(t *testing.T) {
	n, data := several()
	x := treeOf(t, n)
	var paths []string
	for q := range x.All() {
		paths = append(paths, joined("d", q))
	}
	var l []api.Edit
	for _, p := range paths {
		l = append(l, removed(p), mkdir(p+"/new"), newFile(p+"/new", "x"), moves(p, "away"), linked(p, "x"),
			written(p, ""), written(p, "x"), written(p, text(513)), written(p, strings.Repeat("x", 1025)), longer(p, "x"), longer(p, text(600)),
			api.Edit{Kind: api.EditChmod, Path: p, Mode: 0}, api.Edit{Kind: api.EditSync, Path: p})
		for _, q := range paths {
			l = append(l, swapped(p, q), moves(p, q))
		}
	}
	well, overtaken := 0, 0
	for steps := range 12 {
		w := begun(t, "d", n, data)
		for i, e := range l {
			c := w.Copy()
			s := New(c, api.A, api.B, "d", ".twine/1", x)
			for range steps {
				s.Step()
			}
			if c.Edit(api.A, e) != api.OK {
				continue
			}
			before := image(c, api.A)
			left := s.Left()
			more, did, err := run(s)
			what := fmt.Sprintf("behind %d steps edit %d, %+v", steps, i, e.Kind)
			wantText(t, what+": the source", image(c, api.A), before)
			switch did {
			case api.DidNothing:
				well++
				want(t, what+": steps", more, left)
				brought(t, what, c, api.B, ".twine/1", x)
			case api.DidOvertaken:
				overtaken++
				want(t, what+": error", err, api.ErrStageOther)
			default:
				t.Errorf("%s: %d, %d", what, did, err)
			}
			if t.Failed() {
				return
			}
		}
	}
	if well < 500 || overtaken < 500 {
		t.Errorf("but %d went well, %d were overtaken", well, overtaken)
	}
}

// The same with many edits of both volumes, and ticks, by chance; nobody is at the place.
func TestP16_4Edited(t *testing.T) {
	well, changed := 0, 0
	for seed := range 2500 {
		u := author{rand.New(rand.NewSource(int64(seed)))}
		w := u.world(t)
		from := u.r.Intn(2)
		to := 1 - from
		src := u.source(w, from)
		x := scanned(t, w, from, src)
		s := New(w, from, to, src, ".twine/1", x)
		for {
			for u.r.Intn(3) == 0 {
				v := u.one(from, from, to)
				next, _ := s.Next()
				w.Edit(v, u.edit(w, v, next))
				w.Tick()
			}
			if did, _ := s.Step(); did != api.DidStage {
				if did == api.DidNothing {
					well++
					brought(t, fmt.Sprint("script ", seed), w, to, ".twine/1", x)
					if pictured(w, from, src) != values(x) {
						changed++
					}
				}
				break
			}
		}
	}
	if well < 800 || changed < 200 {
		t.Errorf("but %d went well, with %d other sources", well, changed)
	}
}

// A source that nobody changes: as many steps as were told, each of them well, and nothing but the place is changed; with just the room that it takes.
func TestP16_5Undisturbed(t *testing.T) {
	steps := 0
	for seed := range 1500 {
		u := author{rand.New(rand.NewSource(int64(seed)))}
		things := [3][]api.Thing{u.things(0), u.things(100), u.things(200)}
		from, to := u.r.Intn(3), u.r.Intn(3)
		place := u.of(".twine/1", "place", ".twine/p/q")
		for i := range place {
			if place[i] == '/' {
				things[to] = append(things[to], dirAt(place[:i], 7, 300+i))
			}
		}
		w, e := world.New(api.Caps{}, 3, things)
		wantOK(t, "world.New", e)
		src := u.source(w, from)
		x := scanned(t, w, from, src)
		w, e = world.New(u.room(w, to, x), 3, things)
		wantOK(t, "world.New", e)
		before := outside(w, to, place)
		what := fmt.Sprintf("seed %d: %q of %d to %q of %d", seed, src, from, place, to)
		s := New(w, from, to, src, place, x)
		left := s.Left()
		for i := range left {
			want(t, what+": Left", s.Left(), left-i)
			if _, ok := s.Next(); !ok {
				t.Fatalf("%s: no step behind %d", what, i)
			}
			does(t, what, s, api.DidStage, api.OK)
			wantText(t, what+": all else", outside(w, to, place), before)
			if t.Failed() {
				return
			}
		}
		steps += left
		stands(t, what+": at the end", s, w, "", 0, staged(w))
		does(t, what+": at the end", s, api.DidNothing, api.OK)
		brought(t, what, w, to, place, x)
	}
	if steps < 4000 {
		t.Errorf("but %d steps", steps)
	}
}

// room: caps by which a volume has just as much as the tree takes, besides what it holds.
func (u author) room(w *world.World, v int, x *tree.Tree) api.Caps {
	c := api.Caps{}
	c.Names[v] = len(w.Image(v)) - 1 + x.Count() // the root isn't counted
	for _, y := range w.Image(v) {
		if y.Kind == api.File {
			c.Bytes[v] += len(y.Data)
		}
	}
	for _, value := range x.All() {
		if value.Kind == api.File {
			c.Bytes[v] += value.Size
		}
	}
	return c
}

// Ticks change nothing of it, whenever they come.
func TestP16_5Ticks(t *testing.T) {
	n, data := several()
	w := begun(t, "d", n, data)
	s := New(w, api.A, api.B, "d", ".twine/1", treeOf(t, n))
	for range s.Left() {
		w.Tick()
		does(t, "a step", s, api.DidStage, api.OK)
		w.Tick()
	}
	does(t, "at the end", s, api.DidNothing, api.OK)
	brought(t, "with ticks", w, api.B, ".twine/1", treeOf(t, n))
}

// Many things: in one directory, far down, and long files.
func TestP16_5Many(t *testing.T) {
	n, data, steps := dir("", 7), map[string]string{}, 1
	for i := range 3000 {
		name := fmt.Sprintf("n%04d", i)
		data[name] = text(i % 1100)
		n.Kids = append(n.Kids, filed(name, i%8, data[name]))
		steps += max(1, (i%1100+511)/512)
	}
	far := filed("f", 3, text(100))
	for range 60 {
		far = dir("z", 5, far)
	}
	data[strings.Repeat("z/", 60)+"f"] = text(100)
	n.Kids = append(n.Kids, far)
	steps += 61
	big := text(200*512 + 1)
	data["zz"] = big
	n.Kids = append(n.Kids, filed("zz", 3, big))
	steps += 201
	w := begun(t, "", n, data)
	x := treeOf(t, n)
	s := New(w, api.A, api.B, "", ".twine/1", x)
	want(t, "Left", s.Left(), steps)
	got, did, e := run(s)
	want(t, "steps", got, steps)
	want(t, "did", did, api.DidNothing)
	want(t, "error", e, api.OK)
	brought(t, "many", w, api.B, ".twine/1", x)
}

// A stage that has ended, by its last step or otherwise, keeps nothing.
func TestP16_5KeepsNothing(t *testing.T) {
	w, s := kindsStage(t)
	run(s)
	if s.world != nil || s.todo != nil || s.file != nil {
		t.Errorf("at the end something is kept")
	}
	w, s = kindsStage(t)
	s.Step()
	w.Rig(api.B, 1, 1, 0, false)
	run(s)
	if s.world != nil || s.todo != nil || s.file != nil {
		t.Errorf("when it is over something is kept")
	}
}
