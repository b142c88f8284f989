package apply

import (
	"fmt"
	"strings"
	"testing"

	"twine/api"
	"twine/world"
)

// standing: what is removed in the tests of this file.
func standing() []api.Thing {
	return []api.Thing{
		dirOf("", 5), dirOf("a", 0), fileOf("a/b", 4, text(513)), dirOf("a/c", 7), linkOf("a/c/l", "to"), fileOf("a!c", 1, "x"), dirOf("b", 7), linkOf("c", "x"),
	}
}

// gone: the paths of standing in the staging place, in the order in which they are removed.
func gone() []string {
	return []string{"1/c", "1/b", "1/a!c", "1/a/c/l", "1/a/c", "1/a/b", "1/a", "1"}
}

// begunAway: an item that is put, with all of standing at the staging path.
func begunAway(t testing.TB, comes []api.Thing) *pair {
	t.Helper()
	p := begun(t, between(t, "x", comes, standing()), carry(1, "x", api.A))
	for p.items[0].Phase() != api.DidAway {
		p.steps(t, "up to the put", 1)
	}
	return p
}

// stagedPaths: what the staging place of B has.
func stagedPaths(w *world.World) string {
	var l []string
	for _, x := range w.Image(api.B) {
		if strings.HasPrefix(x.Path, ".twine/") {
			l = append(l, x.Path[len(".twine/"):])
		}
	}
	return strings.Join(l, " ")
}

// One Remove a step, the last one by path first, and nothing else.
func TestP17_3AwayInOrder(t *testing.T) {
	for _, comes := range sorts() {
		p := begunAway(t, comes.things)
		around := outside(p.w, api.B)
		for i, q := range gone() {
			what := fmt.Sprintf("%s came: away %d", comes.what, i)
			before := stagedPaths(p.w)
			p.each(func(w *world.World) {
				counted(w, api.A)
				counted(w, api.B)
			})
			want(t, what+": Phase", didName(p.items[0].Phase()), "away")
			p.steps(t, what, 1)
			p.alike(t, what)
			want(t, what+": calls", made(p.w, api.B), [2]int{1, 0})
			want(t, what+": calls of the source", made(p.w, api.A), [2]int{})
			left := strings.Fields(stagedPaths(p.w))
			want(t, what+": how many are left", len(left), len(gone())-1-i)
			want(t, what+": what went", missing(before, left), q)
			want(t, what+": How", p.items[0].Done().How, api.HowPut)
		}
		want(t, comes.what+" came: Phase at the end", didName(p.items[0].Phase()), "nothing")
		wantText(t, comes.what+" came: around it", outside(p.w, api.B), around)
		hasEnded(t, comes.what+" came", p.items[0], p.w)
	}
}

// missing: what isn't left, of what was there.
func missing(before string, left []string) string {
	has := map[string]int{}
	for _, p := range left {
		has[p]++
	}
	var l []string
	for _, p := range strings.Fields(before) {
		if has[p] == 0 {
			l = append(l, p)
		}
	}
	return strings.Join(l, " ")
}

// Each Remove fails: the item has ended by that, as put, and what wasn't removed stays.
func TestP17_3AwayFails(t *testing.T) {
	for _, comes := range [][]api.Thing{nil, {fileOf("", 6, "abc")}} {
		for i := range gone() {
			what := fmt.Sprintf("away %d fails, %d come", i, len(comes))
			p := begunAway(t, comes)
			done := tellsOf(0, p.items[0].Done())
			p.steps(t, what, i)
			p.each(func(w *world.World) { w.Rig(api.B, 0, 1, 0, false) })
			before := images(p.w)
			did, e := p.step(t, what, 0)
			want(t, what+": did", didName(did), "away")
			want(t, what+": error", e, api.ErrWorldFault)
			want(t, what+": Done", tellsOf(0, p.items[0].Done()), done)
			want(t, what+": How", p.items[0].Done().How, api.HowPut)
			wantText(t, what+": the world", images(p.w), before)
			p.alike(t, what)
			hasEnded(t, what, p.items[0], p.w)
		}
	}
}

// A Remove that is refused, because others were there.
func TestP17_3AwayRefused(t *testing.T) {
	for _, c := range []struct {
		what  string
		ahead int
		do    func(w *world.World) []api.Errno
		well  int // steps that go well behind it
		e     api.Errno
	}{
		{"one is gone already", 0, func(w *world.World) []api.Errno { return []api.Errno{w.Remove(api.B, ".twine/1/c")} }, 0, api.ErrWorldNone},
		{"one is gone, later", 1, func(w *world.World) []api.Errno { return []api.Errno{w.Remove(api.B, ".twine/1/a/b")} }, 4, api.ErrWorldNone},
		{"what is above is gone", 3, func(w *world.World) []api.Errno { return []api.Errno{w.Rename(api.B, ".twine/1/a/c", ".twine/2")} }, 0, api.ErrWorldWay},
		{"all is gone", 2, func(w *world.World) []api.Errno { return []api.Errno{w.Rename(api.B, ".twine/1", ".twine/2")} }, 0, api.ErrWorldWay},
		{"no staging place", 2, func(w *world.World) []api.Errno { return []api.Errno{w.Rename(api.B, ".twine", "t")} }, 0, api.ErrWorldWay},
		{"a thing more in a directory", 1, func(w *world.World) []api.Errno { return []api.Errno{w.Mkdir(api.B, ".twine/1/b/new")} }, 0, api.ErrWorldRest},
		{"a thing more at the root", 1, func(w *world.World) []api.Errno { return []api.Errno{w.Create(api.B, ".twine/1/new")} }, 6, api.ErrWorldRest},
		{"a thing more, the last one gone", 7, func(w *world.World) []api.Errno { return []api.Errno{w.Link(api.B, ".twine/1/new", "x")} }, 0, api.ErrWorldRest},
		{"the root is gone at the end", 7, func(w *world.World) []api.Errno { return []api.Errno{w.Remove(api.B, ".twine/1")} }, 0, api.ErrWorldNone},
	} {
		p := begunAway(t, []api.Thing{linkOf("", "to")})
		p.steps(t, c.what, c.ahead)
		p.each(func(w *world.World) { wantOK(t, c.what, c.do(w)...) })
		dids, e := p.toEnd(t, c.what)
		want(t, c.what+": steps", dids+" ", times("away", c.well+1))
		want(t, c.what+": error", e, c.e)
		want(t, c.what+": How", p.items[0].Done().How, api.HowPut)
	}
}

// Other things at the same paths are removed as dst's would be: no look is made of them.
func TestP17_3AwayOtherThings(t *testing.T) {
	p := begunAway(t, nil)
	p.each(func(w *world.World) {
		wantOK(t, "others", w.Remove(api.B, ".twine/1/c"), w.Mkdir(api.B, ".twine/1/c"), w.Append(api.B, ".twine/1/a/b", []byte("x")), w.Exchange(api.B, ".twine/1/b", ".twine/1/a!c"))
	})
	dids, e := p.toEnd(t, "other things")
	want(t, "steps", dids+" ", times("away", 8))
	want(t, "error", e, api.OK)
	want(t, "what is left", stagedPaths(p.w), "")
}

// Users at the place, behind the put: what they do there is theirs.
func TestP17_3UsersBehindThePut(t *testing.T) {
	for i := range gone() {
		p := begunAway(t, []api.Thing{fileOf("", 6, "abc")})
		p.steps(t, "away", i)
		p.each(func(w *world.World) { edits{moves("x", "y"), mkdir("x", 3)}.done(t, w, api.B) })
		before := outside(p.w, api.B)
		dids, e := p.toEnd(t, "users")
		want(t, "steps", dids+" ", times("away", 8-i))
		want(t, "error", e, api.OK)
		wantText(t, "B", outside(p.w, api.B), before)
	}
}

// There is nothing to remove, where nothing was moved to the staging path.
func TestP17_3NoAway(t *testing.T) {
	for _, c := range putKinds() {
		p := begunPut(t, c)
		p.steps(t, c.what, 1)
		phase := "away"
		if c.behind == "" {
			phase = "nothing"
		}
		want(t, c.what, didName(p.items[0].Phase()), phase)
	}
}
