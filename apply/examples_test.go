package apply

import (
	"testing"

	"twine/api"
	"twine/world"
)

// does looks at what a step tells, and at Phase and Done behind it.
func does(t testing.TB, what string, a *Apply, did int, e api.Errno, phase, how, files int) {
	t.Helper()
	gotDid, gotE := a.Step()
	want(t, what+": did", didName(gotDid), didName(did))
	want(t, what+": error", gotE, e)
	stands(t, what, a, phase, how, files)
}

// stands looks at Phase and Done.
func stands(t testing.TB, what string, a *Apply, phase, how, files int) {
	t.Helper()
	d := a.Done()
	want(t, what+": Phase", didName(a.Phase()), didName(phase))
	want(t, what+": How", d.How, how)
	want(t, what+": Item", d.Item, 1)
	want(t, what+": files", len(d.Put), files)
}

func exampled(t testing.TB) (*world.World, *Apply) {
	w := between(t, "f", []api.Thing{fileOf("", 6, "abc")}, nil)
	return w, New(w, carry(1, "f", api.A), treeOf(t, fileOf("", 6, "abc")), nil)
}

func TestP17_Example1(t *testing.T) {
	w, a := exampled(t)
	stands(t, "at the beginning", a, api.DidLook, api.HowNone, 0)
	does(t, "look", a, api.DidLook, api.OK, api.DidStage, api.HowNone, 0)
	does(t, "stage", a, api.DidStage, api.OK, api.DidPut, api.HowNone, 0)
	want(t, "what is staged", staging(w, api.B), "1 2.6.3")
	does(t, "put", a, api.DidPut, api.OK, api.DidNothing, api.HowPut, 1)
	does(t, "the end", a, api.DidNothing, api.OK, api.DidNothing, api.HowPut, 1)
	want(t, "B's f", values(scanned(t, w, api.B, "f")), values(treeOf(t, fileOf("", 6, "abc"))))
	want(t, "what is staged", staging(w, api.B), "")
	s, e := w.Stat(api.B, "f")
	wantOK(t, "Stat", e)
	want(t, "the file", a.Done().Put[0], api.Placed{Path: "f", Number: s.Number, Stamp: s.Stamp})
	hasEnded(t, "the end", a, w)
}

func TestP17_Example1Overtaken(t *testing.T) {
	w, a := exampled(t)
	does(t, "look", a, api.DidLook, api.OK, api.DidStage, api.HowNone, 0)
	does(t, "stage", a, api.DidStage, api.OK, api.DidPut, api.HowNone, 0)
	wantOK(t, "a user's f", w.Edit(api.B, api.Edit{Kind: api.EditFile, Path: "f", Mode: 6, Data: []byte("abc")}))
	before := images(w)
	does(t, "put", a, api.DidOvertaken, api.OK, api.DidNothing, api.HowOvertaken, 0)
	want(t, "what is staged", staging(w, api.B), "1 2.6.3")
	wantText(t, "the world", images(w), before)
	hasEnded(t, "the end", a, w)
}

func TestP17_Example2(t *testing.T) {
	d := []api.Thing{dirOf("", 5), fileOf("x", 6, "abc")}
	w := between(t, "d", nil, d)
	a := New(w, carry(1, "d", api.A), nil, treeOf(t, d...))
	stands(t, "at the beginning", a, api.DidLook, api.HowNone, 0)
	does(t, "look", a, api.DidLook, api.OK, api.DidPut, api.HowNone, 0)
	does(t, "put", a, api.DidPut, api.OK, api.DidAway, api.HowPut, 0)
	want(t, "what is staged", staging(w, api.B), "1 1.5.0, 1/x 2.6.3")
	want(t, "what is left", values(scanned(t, w, api.B, "d")), "")
	does(t, "away: x", a, api.DidAway, api.OK, api.DidAway, api.HowPut, 0)
	want(t, "what is staged", staging(w, api.B), "1 1.5.0")
	does(t, "away: the directory", a, api.DidAway, api.OK, api.DidNothing, api.HowPut, 0)
	want(t, "what is staged", staging(w, api.B), "")
	does(t, "the end", a, api.DidNothing, api.OK, api.DidNothing, api.HowPut, 0)
	hasEnded(t, "the end", a, w)

	w = between(t, "d", nil, []api.Thing{fileOf("", 6, "abc")})
	a = New(w, carry(1, "d", api.A), nil, treeOf(t, fileOf("", 6, "abc")))
	does(t, "a file: look", a, api.DidLook, api.OK, api.DidPut, api.HowNone, 0)
	does(t, "a file: put", a, api.DidPut, api.OK, api.DidNothing, api.HowPut, 0)
	want(t, "a file", values(scanned(t, w, api.B, "d")), "")
	hasEnded(t, "a file: the end", a, w)
}
