package world

import (
	"testing"

	"twine/api"
)

func TestP9_Example1(t *testing.T) {
	w := empties(t)
	want(t, "Edit", w.Edit(api.A, newFile("f", "abc", 6)), api.OK)
	want(t, "Stat", stat(t, w, api.A, "f"), api.Stat{Kind: api.File, Mode: 6, Size: 3, Number: 4, Stamp: 1})
	want(t, "Image", told(w.Image(api.A)), "\"\" 1 7 \"\" 0 1 1\n\"f\" 2 6 \"abc\" 0 4 1")
	want(t, "names 0", told(w.After([3]int{}, [3][]int{}).Image(api.A)), `"" 1 7 "" 0 1 1`)
	want(t, "names 1", told(w.After([3]int{1}, [3][]int{{2}}).Image(api.A)), "\"\" 1 7 \"\" 0 1 1\n\"f\" 2 6 \"ab\" 2 4 2")
}

func TestP9_Example2(t *testing.T) {
	w := empties(t)
	edited(t, w, api.A, newFile("f", "abc", 6))
	ok(t, w.Sync(api.A, "f"), w.SyncVolume(api.A))
	edited(t, w, api.A, api.Edit{Kind: api.EditRename, Path: "f", To: "g"}, newFile("f", "x", 6))
	want(t, "names 1", told(w.After([3]int{1}, [3][]int{}).Image(api.A)), "\"\" 1 7 \"\" 0 1 1\n\"g\" 2 6 \"abc\" 3 4 1")
	want(t, "names 2", told(w.After([3]int{2}, [3][]int{{0, 5}}).Image(api.A)), "\"\" 1 7 \"\" 0 1 1\n\"f\" 2 6 \"\" 0 5 2\n\"g\" 2 6 \"abc\" 3 4 1")
}

func TestP9_Example3(t *testing.T) {
	w := empties(t)
	ok(t, w.Mkdir(api.A, "d"), w.Mkdir(api.A, "d/x"), w.Mkdir(api.A, "e"), w.Create(api.A, "f"))
	want(t, "a directory over a file", w.Rename(api.A, "d", "f"), api.ErrWorldKind)
	want(t, "a file over a directory", w.Rename(api.A, "f", "e"), api.ErrWorldKind)
	want(t, "d and d/x", w.Exchange(api.A, "d", "d/x"), api.ErrWorldInside)
	want(t, "through a file", w.Mkdir(api.A, "f/x"), api.ErrWorldWay)
	want(t, "the staging place", w.Edit(api.A, api.Edit{Kind: api.EditMkdir, Path: ".twine"}), api.ErrWorldTaken)
	want(t, "the staging place, by a run", w.Mkdir(api.A, ".twine"), api.OK)
}

func TestP9_Example4(t *testing.T) {
	w := empties(t)
	ok(t, w.Create(api.A, "f"))
	w.Rig(api.A, 1, 2, 1, false)
	want(t, "the first", w.Mkdir(api.A, "d"), api.OK)
	want(t, "the second", w.Append(api.A, "f", []byte("yz")), api.ErrWorldFault)
	want(t, "one byte more", stat(t, w, api.A, "f").Size, 1)
	want(t, "the third", w.Mkdir(api.A, "d"), api.ErrWorldFault)
	want(t, "the fourth", w.Mkdir(api.A, "d"), api.ErrWorldTwice)
}
