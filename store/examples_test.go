package store

import (
	"testing"

	"twine/api"
)

func TestP10_Example1(t *testing.T) {
	w := empties(t)
	l := Load(w, 9)
	steps(t, "the first", l, false)
	steps(t, "the second", l, true)
	tells(t, "Tree", l, First().Node(), 0)
	s := Save(w, []byte(text(600)))
	for i, laid := range []int{0, 512, 600, 600, 600} {
		saves(t, "a step", s, false, api.OK, api.SavedNo)
		b, _ := bytesAt(w, "archive.new")
		want(t, "what is laid", b, text(600)[:laid])
		want(t, "how much is sure", w.Image(api.S)[1].Sure, []int{0, 0, 0, 600, 600}[i])
	}
	saves(t, "the sixth", s, false, api.OK, api.SavedPerhaps)
	saves(t, "the seventh", s, true, api.OK, api.SavedYes)
}

func TestP10_Example2(t *testing.T) {
	for _, c := range []struct {
		at, atFresh spot
		f           api.Fault
	}{
		{emptyDir, nothing, api.Fault{Path: "archive", Err: api.ErrStoreKind}},
		{nothing, fullDir, api.Fault{Path: "archive.new", Err: api.ErrWorldRest}},
		{filed("abc"), nothing, api.Fault{At: 0, Err: api.ErrCodecMark}},
	} {
		l := Load(worldOf(t, api.Caps{}, c.at, c.atFresh, true), 9)
		steps(t, "the first", l, false)
		fails(t, "the second", l, c.f)
	}
	want(t, "the number", int(api.ErrStoreKind), 100)
}
