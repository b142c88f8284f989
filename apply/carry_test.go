package apply

import (
	"fmt"
	"math/rand"
	"strings"
	"testing"

	"twine/api"
	"twine/stage"
	"twine/tree"
	"twine/world"
)

// Each sort of thing that comes over each sort that is there, from A to B and back, at the top and further down.
func TestP17_3EachSortOverEach(t *testing.T) {
	for _, p := range []string{"x", "way/to/x"} {
		for from := range 2 {
			for _, comes := range sorts() {
				for _, stood := range sorts() {
					if comes.things == nil && stood.things == nil {
						continue
					}
					sides := [2][]api.Thing{comes.things, stood.things}
					w := between(t, p, sides[from], sides[1-from])
					undisturbed(t, fmt.Sprintf("%s over %s, from %d, at %s", comes.what, stood.what, from, p), w, carry(7, p, from))
				}
			}
		}
	}
}

// Files of all sizes around a piece's, on either side.
func TestP17_3Sizes(t *testing.T) {
	for _, comes := range []int{-1, 0, 1, 511, 512, 513, 1024, 1025} {
		for _, stood := range []int{-1, 0, 1, 511, 512, 513, 1024, 1025} {
			if comes < 0 && stood < 0 {
				continue
			}
			for from := range 2 {
				var sides [2][]api.Thing
				if comes >= 0 {
					sides[from] = []api.Thing{fileOf("", 6, text(comes))}
				}
				if stood >= 0 {
					sides[1-from] = []api.Thing{fileOf("", 5, text(stood + 1)[1:])}
				}
				w := between(t, "f", sides[0], sides[1])
				undisturbed(t, fmt.Sprintf("%d bytes over %d, from %d", comes, stood, from), w, carry(12, "f", from))
			}
		}
	}
}

// undisturbed does an item of a Carry whose trees are what the world has: its steps one by one, what stands there then, what nobody may have touched, and P17.8's bound.
func undisturbed(t *testing.T, what string, w *world.World, it api.Item) {
	t.Helper()
	src, dst := scanned(t, w, it.From, it.Path), scanned(t, w, it.To, it.Path)
	source, around := told(only(t, w, it.From)), aroundOf(w, it)
	p := begun(t, w, it)
	dids, e := p.toEnd(t, what)
	staged, away := stepsOf(w, it, src), awayOf(src, dst)
	want(t, what+": steps", dids+" ", "look "+times("stage", staged)+"put "+times("away", away))
	want(t, what+": error", e, api.OK)
	want(t, what+": the bound", 2+staged+away <= 2+staged+countOf(dst), true)
	wantText(t, what+": the place", values(scanned(t, w, it.To, it.Path)), values(src))
	want(t, what+": the staging place", staging(w, it.To), "")
	wantText(t, what+": the source", told(only(t, w, it.From)), source)
	wantText(t, what+": around it", aroundOf(w, it), around)
	wantPlaced(t, what, p.items[0], w, it, src)
}

// only: a world with one volume of another one.
func only(t testing.TB, w *world.World, v int) *world.World {
	t.Helper()
	var l [3][]api.Thing
	l[v] = w.Image(v)
	x, e := world.New(api.Caps{}, w.Clock(), l)
	wantOK(t, "world.New", e)
	return x
}

// aroundOf: what the volume has elsewhere than at the place, the staging path.
func aroundOf(w *world.World, it api.Item) string {
	return imageOf(w, it.To, func(p string) bool { return !lies(p, it.Path) && !strings.HasPrefix(p, ".twine/") })
}

// stepsOf: how many steps a stage takes.
func stepsOf(w *world.World, it api.Item, src *tree.Tree) int {
	if src == nil {
		return 0
	}
	return stage.New(w, it.From, it.To, it.Path, ".twine/n", src).Left()
}

// awayOf: how many things are to be removed behind the put.
func awayOf(src, dst *tree.Tree) int {
	if dst == nil || src == nil && children(dst) == 0 {
		return 0
	}
	return dst.Count()
}

func countOf(x *tree.Tree) int {
	if x == nil {
		return 0
	}
	return x.Count()
}

// wantPlaced looks that Done tells the files that came, in the order of their paths, as they are.
func wantPlaced(t *testing.T, what string, a *Apply, w *world.World, it api.Item, src *tree.Tree) {
	t.Helper()
	wanted := api.Done{Item: it.Number, How: api.HowPut}
	if src != nil {
		for q, v := range src.All() {
			if v.Kind == api.File {
				s, e := w.Stat(it.To, joined(it.Path, q))
				wantOK(t, what, e)
				wanted.Put = append(wanted.Put, api.Placed{Path: joined(it.Path, q), Number: s.Number, Stamp: s.Stamp})
			}
		}
	}
	want(t, what+": Done", tellsOf(0, a.Done()), tellsOf(0, wanted))
}

// The staging path is made of the item's number; nothing else in the staging place is touched, and nothing of the source's.
func TestP17_3StagingPath(t *testing.T) {
	for _, n := range []int{0, 1, 9, 10, 1234567890, -3} {
		w := between(t, "x", []api.Thing{linkOf("", "to")}, nil)
		wantOK(t, "others", w.Create(api.B, ".twine/other"), w.Mkdir(api.B, ".twine/77"), w.Create(api.A, fmt.Sprint(".twine/", n)))
		p := begun(t, w, carry(n, "x", api.A))
		p.steps(t, "an item", 2)
		want(t, fmt.Sprint("item ", n), strings.Contains(staging(w, api.B), fmt.Sprint(n, " 3.0.2")), true)
		p.steps(t, "an item", 1)
		want(t, fmt.Sprint("item ", n), staging(w, api.B), "77 1.7.0, other 2.7.0")
		want(t, "Done", p.items[0].Done().Item, n)
		want(t, "A's staging place", staging(w, api.A), fmt.Sprint(n, " 2.7.0"))
	}
}

// The files' numbers and stamps are those that the put's Stat told, in the order of paths, which isn't that of texts.
func TestP17_6Placed(t *testing.T) {
	things := []api.Thing{
		dirOf("", 7), dirOf("a", 7), fileOf("a/b", 6, "x"), dirOf("a/b.c", 7), fileOf("a/b.c/z", 6, ""), linkOf("a/l", "x"), fileOf("a!b", 5, text(600)), fileOf("b", 4, "y"),
	}
	for _, stood := range [][]api.Thing{nil, {dirOf("", 7), fileOf("old", 6, "x")}} {
		w := between(t, "d", things, stood)
		p := begun(t, w, carry(2, "d", api.A))
		did := api.DidLook
		var stamps []int
		for did == api.DidLook || did == api.DidStage {
			p.each((*world.World).Tick)
			did, _ = p.step(t, "a step", 0)
			stamps = append(stamps, w.Clock())
		}
		want(t, "did", didName(did), "put")
		d := p.items[0].Done()
		var l []string
		for _, x := range d.Put {
			s, e := w.Stat(api.B, x.Path)
			wantOK(t, x.Path, e)
			want(t, x.Path, x, api.Placed{Path: x.Path, Number: s.Number, Stamp: s.Stamp})
			l = append(l, fmt.Sprintf("%s@%d", x.Path, x.Stamp))
		}
		// steps: look, d, a, a/b, a/b.c, a/b.c/z, a/l, a!b twice, b, put
		want(t, "the files", strings.Join(l, " "), fmt.Sprintf("d/a/b@%d d/a/b.c/z@%d d/a!b@%d d/b@%d", stamps[3], stamps[5], stamps[8], stamps[9]))
		for p.items[0].Phase() != api.DidNothing {
			p.each((*world.World).Tick)
			p.step(t, "a step", 0)
		}
		want(t, "Done at the end", tellsOf(0, p.items[0].Done()), tellsOf(0, d))
	}
}

// None is told ahead of the put, nor of what isn't put, nor of a mode.
func TestP17_6NoneElse(t *testing.T) {
	things := []api.Thing{dirOf("", 7), fileOf("a", 6, "x"), fileOf("b", 6, text(1025))}
	for steps := range 6 {
		w := between(t, "d", things, nil)
		p := begun(t, w, carry(2, "d", api.A))
		p.steps(t, "ahead of the put", steps)
		want(t, "How", p.items[0].Done().How, api.HowNone)
		want(t, "files", len(p.items[0].Done().Put), 0)
		c := begun(t, w.Copy(), carry(3, "d", api.A))
		c.steps(t, "another one", steps)
		c.leave(0)
		want(t, "left: How", c.items[0].Done().How, api.HowLeft)
		want(t, "left: files", len(c.items[0].Done().Put), 0)
		wantOK(t, "an edit", w.Edit(api.B, api.Edit{Kind: api.EditMkdir, Path: "d", Mode: 7}))
		for p.items[0].Phase() != api.DidNothing {
			p.items[0].Step()
		}
		want(t, "overtaken: How", p.items[0].Done().How, api.HowOvertaken)
		want(t, "overtaken: files", len(p.items[0].Done().Put), 0)
	}
	w := worldOf(t, api.Caps{}, nil, nil)
	p := begun(t, w, both(4, "", api.A, 3))
	p.steps(t, "a mode", 1)
	want(t, "a mode: How", p.items[0].Done().How, api.HowPut)
	want(t, "a mode: files", len(p.items[0].Done().Put), 0)
}

// A put whose first Stats went well and whose last one fails tells no files.
func TestP17_6FailedPutTellsNone(t *testing.T) {
	things := []api.Thing{dirOf("", 7), fileOf("a", 6, "x"), fileOf("b", 6, "y")}
	w := between(t, "d", things, nil)
	p := begun(t, w, carry(2, "d", api.A))
	p.steps(t, "ahead of the put", 4)
	p.each(func(w *world.World) { wantOK(t, "others", w.Remove(api.B, ".twine/2/b")) })
	did, e := p.step(t, "put", 0)
	want(t, "did", didName(did), "failed")
	want(t, "error", e, api.ErrWorldNone)
	want(t, "files", len(p.items[0].Done().Put), 0)
}

// Lists that were handed out stay as they are, whoever changes another one; the trees that were handed in stay, too.
func TestP17_6Lists(t *testing.T) {
	things := []api.Thing{dirOf("", 7), fileOf("a", 6, "x"), fileOf("b", 6, "y"), fileOf("c", 6, "z")}
	old := []api.Thing{dirOf("", 7), fileOf("q", 6, "x")}
	w := between(t, "d", things, old)
	src, dst := treeOf(t, things...), treeOf(t, old...)
	before := fmt.Sprint(src.Node(), dst.Node())
	a := New(w, carry(1, "d", api.A), src, dst)
	var lists []api.Done
	for a.Phase() != api.DidNothing {
		a.Step()
		lists = append(lists, a.Done(), a.Done())
	}
	lists = append(lists, a.Done())
	n := len(lists)
	wanted := tellsOf(0, lists[n-1])
	for i := range lists {
		l := lists[i].Put
		if lists[i].How == api.HowPut {
			want(t, "a list", tellsOf(0, lists[i]), wanted)
		}
		for k := range l[:cap(l)] {
			l[:cap(l)][k] = api.Placed{Path: "spoilt", Number: -1, Stamp: -1}
		}
		want(t, "Done behind it", tellsOf(0, a.Done()), wanted)
	}
	want(t, "the trees", fmt.Sprint(src.Node(), dst.Node()), before)
}

// Phase and Done change nothing, whenever they are asked, and however often.
func TestP17_2AskingChangesNothing(t *testing.T) {
	for _, stood := range sorts() {
		w := between(t, "d", sorts()[6].things, stood.things)
		asked := begun(t, w, carry(1, "d", api.A))
		silent := w.Copy()
		unasked := New(silent, carry(1, "d", api.A), asked.models[0].src, asked.models[0].dst)
		for i := 0; ; i++ {
			what := fmt.Sprintf("over %s, step %d", stood.what, i)
			before := told(w)
			for range 5 {
				asked.items[0].Phase()
				asked.items[0].Done()
			}
			wantText(t, what+": the world", told(w), before)
			did, e := asked.step(t, what, 0)
			otherDid, otherE := unasked.Step()
			want(t, what+": did", didName(otherDid), didName(did))
			want(t, what+": error", otherE, e)
			if did == api.DidNothing {
				break
			}
		}
		wantText(t, "the world", images(silent), images(w))
	}
}

// Phase tells ahead of each step what it will tell, if it goes well: by chance over many worlds.
func TestP17_2PhaseTellsTheNext(t *testing.T) {
	for seed := range 300 {
		u := author{rand.New(rand.NewSource(int64(seed)))}
		w := u.roomy(t)
		it := u.item(w, 1)
		if !wayThere(w, it) {
			continue
		}
		a := New(w, it, scanned(t, w, it.From, it.Path), scanned(t, w, it.To, it.Path))
		for range 200 {
			phase := a.Phase()
			did, e := a.Step()
			want(t, fmt.Sprint("script ", seed), didName(did), didName(phase))
			want(t, fmt.Sprint("script ", seed), e, api.OK)
		}
		want(t, fmt.Sprint("script ", seed, ": at the end"), a.Phase(), api.DidNothing)
	}
}
