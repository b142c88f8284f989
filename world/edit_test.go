package world

import (
	"fmt"
	"math"
	"strings"
	"testing"

	"twine/api"
)

// kindsOfEdits: each kind, with a path at which it goes well on the ground.
func kindsOfEdits() map[int]api.Edit {
	return map[int]api.Edit{
		api.EditMkdir:    {Kind: api.EditMkdir, Path: "n", Mode: 3},
		api.EditFile:     {Kind: api.EditFile, Path: "n", Mode: 3, Data: []byte("xyz")},
		api.EditLink:     {Kind: api.EditLink, Path: "n", To: "../t"},
		api.EditWrite:    {Kind: api.EditWrite, Path: "f", Data: []byte("xy")},
		api.EditAppend:   {Kind: api.EditAppend, Path: "f", Data: []byte("xy")},
		api.EditChmod:    {Kind: api.EditChmod, Path: "f", Mode: 3},
		api.EditRename:   {Kind: api.EditRename, Path: "f", To: "n"},
		api.EditExchange: {Kind: api.EditExchange, Path: "f", To: "d"},
		api.EditRemove:   {Kind: api.EditRemove, Path: "f"},
		api.EditSync:     {Kind: api.EditSync, Path: "f"},
		api.EditSettle:   {Kind: api.EditSettle},
	}
}

// What each kind does, with nothing in the fields that it doesn't name, and with what can't be.
func TestP9_7Kinds(t *testing.T) {
	root, d, x, f, g, l := `"" 1 7 "" 0 1 1`, `"d" 1 7 "" 0 4 1`, `"d/x" 1 7 "" 0 5 1`, `"f" 2 7 "abc" 0 6 1`, `"g" 2 7 "" 0 7 1`, `"l" 3 0 "t" 0 8 1`
	wanted := map[int][]string{
		api.EditMkdir:    {root, d, x, f, g, l, `"n" 1 3 "" 0 9 2`},
		api.EditFile:     {root, d, x, f, g, l, `"n" 2 3 "xyz" 0 9 2`},
		api.EditLink:     {root, d, x, f, g, l, `"n" 3 0 "../t" 0 9 2`},
		api.EditWrite:    {root, d, x, `"f" 2 7 "xy" 0 6 2`, g, l},
		api.EditAppend:   {root, d, x, `"f" 2 7 "abcxy" 3 6 2`, g, l},
		api.EditChmod:    {root, d, x, `"f" 2 3 "abc" 3 6 2`, g, l},
		api.EditRename:   {root, d, x, g, l, `"n" 2 7 "abc" 0 6 1`},
		api.EditExchange: {root, `"d" 2 7 "abc" 0 6 1`, `"f" 1 7 "" 0 4 1`, `"f/x" 1 7 "" 0 5 1`, g, l},
		api.EditRemove:   {root, d, x, g, l},
		api.EditSync:     {root, d, x, `"f" 2 7 "abc" 3 6 1`, g, l},
		api.EditSettle:   {root, d, x, `"f" 2 7 "abc" 3 6 1`, g, l},
	}
	for kind, e := range kindsOfEdits() {
		full := e
		if kind == api.EditSettle {
			full.Path = "a//b"
		}
		if kind != api.EditLink && kind != api.EditRename && kind != api.EditExchange {
			full.To = "a//b"
		}
		if kind != api.EditMkdir && kind != api.EditFile && kind != api.EditChmod {
			full.Mode = math.MinInt
		}
		if kind != api.EditFile && kind != api.EditWrite && kind != api.EditAppend {
			full.Data = []byte(strings.Repeat("waste", 1000))
		}
		for _, e := range []api.Edit{e, full} {
			w := ground(t)
			if kind == api.EditAppend || kind == api.EditChmod {
				ok(t, w.Sync(api.A, "f"))
			}
			w.Tick()
			w.Rig(api.A, 0, 9, 9, false)
			w.Rig(api.A, 0, 9, 9, true)
			want(t, fmt.Sprint("kind ", kind), w.Edit(api.A, e), api.OK)
			want(t, fmt.Sprint("kind ", kind), told(w.Image(api.A)), strings.Join(wanted[kind], "\n"))
			want(t, "never counted", w.volumes[api.A].rigs, [2]rig{{0, 9, 9}, {0, 9, 9}})
		}
	}
}

// Edits of one replica leave the other one as it is.
func TestP9_7EditsOfB(t *testing.T) {
	a := ground(t).Image(api.A)
	w := made(t, api.Caps{}, 1, [3][]api.Thing{nil, a, nil})
	for kind, e := range kindsOfEdits() {
		c := w.Copy()
		c.Tick()
		want(t, fmt.Sprint("kind ", kind), c.Edit(api.B, e), api.OK)
		want(t, "A beside it", told(c.Image(api.A)), told(w.Image(api.A)))
		want(t, "B has changed", told(c.Image(api.B)) != told(w.Image(api.B)), true)
	}
}

// A user's order: no volume; no kind; each path: its form, the root, the staging place; a target, a mode; then what stands there.
func TestP9_7Order(t *testing.T) {
	type wrong struct {
		is api.Errno
		p  string
	}
	forms := []wrong{
		{api.ErrPathDeep, strings.Repeat("a/", 64) + "a"}, {api.ErrPathDeep, ".twine" + strings.Repeat("/a", 64)}, {api.ErrPathName, strings.Repeat("/", 63)}, {api.ErrPathDeep, strings.Repeat("/", 64)},
		{api.ErrPathName, ".twine/"}, {api.ErrPathName, "a//b"}, {api.ErrWorldRoot, ""},
		{api.ErrWorldTaken, ".twine"}, {api.ErrWorldTaken, ".twine/x"}, {api.ErrWorldTaken, ".twine/x/y"}, {api.ErrWorldTaken, ".twine" + strings.Repeat("/a", 63)},
	}
	ways := []wrong{{api.ErrWorldWay, "f/x"}, {api.ErrWorldWay, "no/x"}, {api.ErrWorldWay, "l/x"}, {api.ErrWorldWay, "no/.twine"}}
	for kind, e := range kindsOfEdits() {
		for _, v := range []int{-1, 2, 3, math.MaxInt, math.MinInt} {
			tried(t, "no volume", true, false, func(w *World) api.Errno { return w.Edit(v, e) }, api.ErrWorldVolume)
			tried(t, "no volume, no kind", true, false, func(w *World) api.Errno { return w.Edit(v, api.Edit{}) }, api.ErrWorldVolume)
		}
		if kind == api.EditSettle {
			continue
		}
		two := kind == api.EditRename || kind == api.EditExchange
		for _, f := range append(forms, ways...) {
			early := f.is != api.ErrWorldWay
			if f.p == "" && kind == api.EditChmod {
				continue
			}
			what := fmt.Sprintf("kind %d, %.9q", kind, f.p)
			x := e
			x.Path = f.p
			tried(t, what, true, false, func(w *World) api.Errno { return w.Edit(api.A, x) }, f.is)
			var other api.Errno
			switch kind {
			case api.EditLink:
				x.To, other = "", api.ErrWorldTarget
			case api.EditMkdir, api.EditFile, api.EditChmod:
				x.Mode, other = 8, api.ErrWorldMode
			}
			if other != api.OK && early {
				other = f.is
			}
			if other != api.OK {
				tried(t, what+", and more", false, false, func(w *World) api.Errno { return w.Edit(api.A, x) }, other)
			}
			if !two {
				continue
			}
			x = e
			x.To = f.p
			tried(t, what+" as To", false, false, func(w *World) api.Errno { return w.Edit(api.A, x) }, f.is)
			for _, g := range append(forms, ways...) {
				x.Path = g.p
				first := g.is
				if early && g.is == api.ErrWorldWay {
					first = f.is
				}
				tried(t, what+fmt.Sprintf(" as To behind %.9q", g.p), false, false, func(w *World) api.Errno { return w.Edit(api.A, x) }, first)
			}
		}
	}
}

func TestP9_7NoKind(t *testing.T) {
	for _, kind := range []int{0, 12, -1, math.MaxInt, math.MinInt} {
		for _, p := range []string{"f", "a//b", "", ".twine", "no/x"} {
			tried(t, fmt.Sprint("kind ", kind), false, false, func(w *World) api.Errno {
				return w.Edit(api.A, api.Edit{Kind: kind, Path: p, To: "x", Mode: 9})
			}, api.ErrWorldEdit)
		}
	}
}

// What stands there, kind by kind.
func TestP9_7Standing(t *testing.T) {
	for _, c := range []struct {
		e    api.Edit
		want api.Errno
	}{
		{api.Edit{Kind: api.EditMkdir, Path: "f"}, api.ErrWorldTwice},
		{api.Edit{Kind: api.EditFile, Path: "d"}, api.ErrWorldTwice},
		{api.Edit{Kind: api.EditLink, Path: "l", To: "t"}, api.ErrWorldTwice},
		{api.Edit{Kind: api.EditWrite, Path: "no"}, api.ErrWorldNone},
		{api.Edit{Kind: api.EditWrite, Path: "d"}, api.ErrWorldKind},
		{api.Edit{Kind: api.EditWrite, Path: "l"}, api.ErrWorldKind},
		{api.Edit{Kind: api.EditAppend, Path: "no"}, api.ErrWorldNone},
		{api.Edit{Kind: api.EditAppend, Path: "d"}, api.ErrWorldKind},
		{api.Edit{Kind: api.EditAppend, Path: "l"}, api.ErrWorldKind},
		{api.Edit{Kind: api.EditChmod, Path: "no"}, api.ErrWorldNone},
		{api.Edit{Kind: api.EditChmod, Path: "l"}, api.ErrWorldKind},
		{api.Edit{Kind: api.EditChmod, Path: ""}, api.OK},
		{api.Edit{Kind: api.EditRename, Path: "no", To: "n"}, api.ErrWorldNone},
		{api.Edit{Kind: api.EditRename, Path: "d", To: "d/x/y"}, api.ErrWorldInside},
		{api.Edit{Kind: api.EditRename, Path: "d", To: "f"}, api.ErrWorldKind},
		{api.Edit{Kind: api.EditRename, Path: "f", To: "l"}, api.OK},
		{api.Edit{Kind: api.EditRename, Path: "f", To: "f"}, api.OK},
		{api.Edit{Kind: api.EditExchange, Path: "f", To: "no"}, api.ErrWorldNone},
		{api.Edit{Kind: api.EditExchange, Path: "no", To: "f"}, api.ErrWorldNone},
		{api.Edit{Kind: api.EditExchange, Path: "d/x", To: "d"}, api.ErrWorldInside},
		{api.Edit{Kind: api.EditExchange, Path: "f", To: "f"}, api.OK},
		{api.Edit{Kind: api.EditRemove, Path: "no"}, api.ErrWorldNone},
		{api.Edit{Kind: api.EditRemove, Path: "d"}, api.ErrWorldRest},
		{api.Edit{Kind: api.EditSync, Path: "no"}, api.ErrWorldNone},
		{api.Edit{Kind: api.EditSync, Path: "d"}, api.ErrWorldKind},
		{api.Edit{Kind: api.EditSync, Path: "l"}, api.ErrWorldKind},
		{api.Edit{Kind: api.EditMkdir, Path: "d/.twine"}, api.OK},
		{api.Edit{Kind: api.EditMkdir, Path: ".twinee"}, api.OK},
		{api.Edit{Kind: api.EditMkdir, Path: ".twin"}, api.OK},
		{api.Edit{Kind: api.EditLink, Path: "n", To: ".twine"}, api.OK},
	} {
		tried(t, fmt.Sprint(c.e.Kind, " ", c.e.Path, " ", c.e.To), false, false, func(w *World) api.Errno { return w.Edit(api.A, c.e) }, c.want)
	}
}

// Room: names and bytes; an EditWrite's old bytes are gone.
func TestP9_7Full(t *testing.T) {
	begin := func() *World {
		return made(t, api.Caps{Bytes: [3]int{6, 0, 0}, Names: [3]int{3, 0, 0}}, 1, inA(fileThing("f", "abc", 3, 1), fileThing("g", "d", 0, 2)))
	}
	edit := func(kind int, p, data string) api.Edit {
		return api.Edit{Kind: kind, Path: p, Data: []byte(data), To: "t"}
	}
	for _, c := range []struct {
		e    api.Edit
		want api.Errno
	}{
		{edit(api.EditFile, "n", "12"), api.OK}, {edit(api.EditFile, "n", "123"), api.ErrWorldFull},
		{edit(api.EditWrite, "f", "12345"), api.OK}, {edit(api.EditWrite, "f", "123456"), api.ErrWorldFull}, {edit(api.EditWrite, "g", "123"), api.OK}, {edit(api.EditWrite, "g", "1234"), api.ErrWorldFull},
		{edit(api.EditAppend, "f", "12"), api.OK}, {edit(api.EditAppend, "f", "123"), api.ErrWorldFull},
		{edit(api.EditMkdir, "n", "123456789"), api.OK}, {edit(api.EditLink, "n", "123456789"), api.OK},
	} {
		w := begin()
		before := whole(w)
		want(t, fmt.Sprint(c.e), w.Edit(api.A, c.e), c.want)
		want(t, fmt.Sprint(c.e, ": changed"), whole(w) != before, c.want == api.OK)
	}
	for _, kind := range []int{api.EditMkdir, api.EditFile, api.EditLink} {
		w := begin()
		ok(t, w.Mkdir(api.A, "x"))
		want(t, "names", w.Edit(api.A, edit(kind, "y", "")), api.ErrWorldFull)
	}
	w := begin()
	edited(t, w, api.A, edit(api.EditWrite, "f", ""), edit(api.EditWrite, "g", "123456"))
	want(t, "full", w.Edit(api.A, edit(api.EditWrite, "f", "1")), api.ErrWorldFull)
}

// EditWrite: none of the bytes is sure; EditSettle: all of the volume is, and nothing of the other one.
func TestP9_7Sure(t *testing.T) {
	w := ground(t)
	ok(t, w.Sync(api.A, "f"), w.SyncVolume(api.A), w.Create(api.B, "f"), w.Append(api.B, "f", []byte("b")))
	edited(t, w, api.A, api.Edit{Kind: api.EditWrite, Path: "f", Data: []byte("abcdef")})
	want(t, "none is sure", sureOf(w, api.A, "f"), 0)
	want(t, "behind a fall", read(t, w.After([3]int{}, [3][]int{{2}}), api.A, "f"), "ab")
	edited(t, w, api.A, api.Edit{Kind: api.EditFile, Path: "n", Data: []byte("n")}, api.Edit{Kind: api.EditChmod, Path: "", Mode: 2}, api.Edit{Kind: api.EditSettle})
	before := strings.Split(told(w.Image(api.A)), "\n")
	w.Fall([3]int{}, [3][]int{})
	want(t, "all is there", told(w.Image(api.A)), strings.Join(before, "\n"))
	want(t, "all is sure", strings.Join(before[3:4], ""), `"f" 2 7 "abcdef" 6 6 1`)
	want(t, "B's isn't", listed(t, w, api.B, ""), "[]")
}
