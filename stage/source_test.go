package stage

import (
	"fmt"
	"strings"
	"testing"

	"twine/api"
	"twine/world"
)

// Which errors of the source tell that it is another one: these four, and no other.
func TestP16_3FourErrors(t *testing.T) {
	for e := api.Errno(1); e < 300; e++ {
		wanted := e
		if e == api.ErrWorldNone || e == api.ErrWorldWay || e == api.ErrWorldKind || e == api.ErrWorldOther {
			wanted = api.ErrStageOther
		}
		want(t, fmt.Sprint("error ", int(e)), moved(e), wanted)
	}
}

// edits: what users do to A.
type edits []api.Edit

func (l edits) done(t testing.TB, w *world.World) {
	t.Helper()
	for _, e := range l {
		wantOK(t, "an edit", w.Edit(api.A, e))
	}
}

func removed(p string) api.Edit    { return api.Edit{Kind: api.EditRemove, Path: p} }
func moves(p, to string) api.Edit  { return api.Edit{Kind: api.EditRename, Path: p, To: to} }
func swapped(p, q string) api.Edit { return api.Edit{Kind: api.EditExchange, Path: p, To: q} }
func mkdir(p string) api.Edit      { return api.Edit{Kind: api.EditMkdir, Path: p, Mode: 7} }
func linked(p, to string) api.Edit { return api.Edit{Kind: api.EditLink, Path: p, To: to} }
func newFile(p, data string) api.Edit {
	return api.Edit{Kind: api.EditFile, Path: p, Data: []byte(data), Mode: 6}
}
func written(p, data string) api.Edit {
	return api.Edit{Kind: api.EditWrite, Path: p, Data: []byte(data)}
}
func longer(p, data string) api.Edit {
	return api.Edit{Kind: api.EditAppend, Path: p, Data: []byte(data)}
}

// The source's errors, and values that must be and aren't, at each of its calls: what the step answers, and what stays behind it.
func TestP16_3SourceIsAnother(t *testing.T) {
	n := dir("", 5, dir("c", 5, filed("f", 6, text(1100)), link("l", "to"), filed("o", 4, "")))
	data := map[string]string{"c/f": text(1100), "c/l": "to"}
	d := "1 1.5.0.0, 1/c 1.5.0.0"
	f, laid := d+", 1/c/f 2.6.1100.1100", func(n int) string { return fmt.Sprintf("%s, 1/c/f 2.7.%d.0", d, n) }
	l := f + ", 1/c/l 3.0.2.0"
	other := []byte(text(1100))
	other[1099]++
	for _, c := range []struct {
		what  string
		ahead int   // steps ahead of the edits
		edits edits // all of them are done
		well  int   // steps that go well behind them
		there string
	}{
		{"Stat: ErrWorldNone", 2, edits{removed("d/c/f")}, 0, d},
		{"Stat: ErrWorldNone, moved away", 2, edits{moves("d/c/f", "d/c/g")}, 0, d},
		{"Stat: ErrWorldWay, nothing above", 2, edits{moves("d", "e")}, 0, d},
		{"Stat: ErrWorldWay, a file above", 2, edits{moves("d/c", "e"), newFile("d/c", "x")}, 0, d},
		{"Stat: ErrWorldWay, a link above", 2, edits{moves("d/c", "e"), linked("d/c", "../e")}, 0, d},
		{"Stat: a directory", 2, edits{removed("d/c/f"), mkdir("d/c/f")}, 0, d},
		{"Stat: a link", 2, edits{removed("d/c/f"), linked("d/c/f", text(1101)[1:5])}, 0, d},
		{"Read: ErrWorldNone", 3, edits{removed("d/c/f")}, 0, laid(512)},
		{"Read: ErrWorldNone, later", 4, edits{removed("d/c/f")}, 0, laid(1024)},
		{"Read: ErrWorldWay", 3, edits{moves("d", "e")}, 0, laid(512)},
		{"Read: ErrWorldWay, a file above", 4, edits{moves("d/c", "e"), newFile("d/c", "x")}, 0, laid(1024)},
		{"Read: ErrWorldOther, the same bytes", 3, edits{removed("d/c/f"), newFile("d/c/f", text(1100))}, 0, laid(512)},
		{"Read: ErrWorldOther, another file", 3, edits{swapped("d/c/f", "d/c/o")}, 0, laid(512)},
		{"Read: ErrWorldOther, a directory", 4, edits{removed("d/c/f"), mkdir("d/c/f")}, 0, laid(1024)},
		{"Read: ErrWorldOther, a link", 4, edits{swapped("d/c/f", "d/c/l")}, 0, laid(1024)},
		{"Read: no bytes", 2, edits{written("d/c/f", "")}, 0, laid(0)},
		{"Read: too few bytes", 2, edits{written("d/c/f", text(511))}, 0, laid(0)},
		{"Read: too few bytes in the second piece", 2, edits{written("d/c/f", text(1023))}, 1, laid(512)},
		{"Read: none in the last piece", 2, edits{written("d/c/f", text(1024))}, 2, laid(1024)},
		{"Read: too few bytes in the last piece", 2, edits{written("d/c/f", text(1099))}, 2, laid(1024)},
		{"Read: too few bytes, later", 4, edits{written("d/c/f", text(1099))}, 0, laid(1024)},
		{"other bytes of the same size", 2, edits{written("d/c/f", string(other))}, 2, laid(1100)},
		{"other bytes of the same size, later", 4, edits{written("d/c/f", string(other))}, 0, laid(1100)},
		{"other bytes, longer", 2, edits{written("d/c/f", "x"+text(1100))}, 2, laid(1100)},
		{"another file of the same size, ahead of all", 0, edits{removed("d/c/f"), newFile("d/c/f", strings.Repeat("x", 1100))}, 4, laid(1100)},
		{"Target: ErrWorldNone", 5, edits{removed("d/c/l")}, 0, f},
		{"Target: ErrWorldWay", 5, edits{moves("d", "e")}, 0, f},
		{"Target: ErrWorldWay, a link above", 5, edits{moves("d/c", "e"), linked("d/c", "../e")}, 0, f},
		{"Target: ErrWorldKind, a file", 5, edits{removed("d/c/l"), newFile("d/c/l", "to")}, 0, f},
		{"Target: ErrWorldKind, a directory", 5, edits{removed("d/c/l"), mkdir("d/c/l")}, 0, f},
		{"Target: another text of the same size", 5, edits{removed("d/c/l"), linked("d/c/l", "tp")}, 0, f},
		{"Target: a longer one", 5, edits{removed("d/c/l"), linked("d/c/l", "too")}, 0, f},
		{"Target: a shorter one", 5, edits{removed("d/c/l"), linked("d/c/l", "t")}, 0, f},
		{"an empty file: ErrWorldNone", 6, edits{removed("d/c/o")}, 0, l},
		{"an empty file: a directory", 6, edits{removed("d/c/o"), mkdir("d/c/o")}, 0, l},
		{"an empty file: a link", 6, edits{swapped("d/c/l", "d/c/o")}, 0, l},
	} {
		w := begun(t, "d", n, data)
		p := paired(w)
		p.begin(api.A, api.B, "d", ".twine/1", treeOf(t, n))
		s := p.stages[0]
		for range c.ahead {
			does(t, c.what+": ahead of it", s, api.DidStage, api.OK)
			p.models[0].step()
		}
		p.each(func(w *world.World) { c.edits.done(t, w) })
		for range c.well {
			did, _ := p.step(t, c.what, 0)
			want(t, c.what+": a step that goes well", did, api.DidStage)
		}
		before := image(w, api.A)
		did, e := p.step(t, c.what, 0)
		want(t, c.what+": did", did, api.DidOvertaken)
		want(t, c.what+": error", e, api.ErrStageOther)
		want(t, c.what+": what is staged", staged(w), c.there)
		wantText(t, c.what+": the source", image(w, api.A), before)
		p.alike(t, c.what)
		isOver(t, c.what, s, w)
	}
}

// What users may do to the source without a step that asks about it: all goes well, and what is brought is as it was scanned.
func TestP16_3SourceMayChange(t *testing.T) {
	n := dir("", 5, filed("f", 6, text(1100)), link("l", "to"), filed("o", 4, ""))
	data := map[string]string{"f": text(1100), "l": "to"}
	chmod := func(p string) api.Edit { return api.Edit{Kind: api.EditChmod, Path: p, Mode: 1} }
	for _, c := range []struct {
		what  string
		ahead int
		edits edits
	}{
		{"a longer file, ahead", 0, edits{longer("d/f", "more")}},
		{"a longer file, meanwhile", 2, edits{longer("d/f", text(600))}},
		{"a longer file, behind all pieces but one", 3, edits{longer("d/f", "more")}},
		{"other modes", 0, edits{chmod("d"), chmod("d/f"), chmod("d/o")}},
		{"another mode, meanwhile", 2, edits{chmod("d/f")}},
		{"bytes that are the same again", 2, edits{written("d/f", "x"), written("d/f", text(1100))}},
		{"other bytes where it was read already", 3, edits{written("d/f", strings.Repeat("x", 1024)+text(1100)[1024:])}},
		{"a file with the same bytes, ahead", 0, edits{removed("d/f"), newFile("d/f", text(1100))}},
		{"a link with the same text", 4, edits{removed("d/l"), linked("d/l", "to")}},
		{"an empty file gets bytes", 5, edits{written("d/o", "bytes")}},
		{"more things", 1, edits{newFile("d/a", "x"), mkdir("d/m"), newFile("d/z", "x")}},
		{"the file is gone behind its last step", 4, edits{removed("d/f")}},
		{"away and back", 2, edits{moves("d", "e"), moves("e", "d")}},
		{"another directory with the same things", 1, edits{mkdir("e"), moves("d/f", "e/f"), moves("d/l", "e/l"), moves("d/o", "e/o"), removed("d"), moves("e", "d")}},
		{"the same bytes under another number, in another place", 1, edits{newFile("g", text(1100)), swapped("g", "d/f")}},
	} {
		w := begun(t, "d", n, data)
		p := paired(w)
		x := treeOf(t, n)
		p.begin(api.A, api.B, "d", ".twine/1", x)
		for range c.ahead {
			p.step(t, c.what, 0)
		}
		p.each(func(w *world.World) { c.edits.done(t, w) })
		did, e := p.toEnd(t, c.what)
		want(t, c.what+": the last step", did, api.DidStage)
		want(t, c.what+": its error", e, api.OK)
		wantText(t, c.what, pictured(w, api.B, ".twine/1"), values(x))
	}
	// A directory is asked nothing at all: it may be gone.
	w := begun(t, "d", dir("", 5, dir("e", 3)), nil)
	s := New(w, api.A, api.B, "d", ".twine/1", treeOf(t, dir("", 5, dir("e", 3))))
	edits{removed("d/e"), removed("d")}.done(t, w)
	does(t, "a directory that is gone", s, api.DidStage, api.OK)
	does(t, "one below it", s, api.DidStage, api.OK)
	want(t, "what is staged", staged(w), "1 1.5.0.0, 1/e 1.3.0.0")
}

// A source that never was as the tree says.
func TestP16_3TreeIsAnother(t *testing.T) {
	spoilt := filed("", 6, "")
	spoilt.Value.Sum[31]++
	for _, c := range []struct {
		what  string
		n     api.Node
		there string
		steps int
	}{
		{"a greater size", sized(601, filed("", 6, text(600))), "1 2.7.512.0", 1},
		{"a size of a piece more", sized(1024, filed("", 6, text(600))), "1 2.7.512.0", 1},
		{"a size of many pieces", sized(api.MaxSize, filed("", 6, text(600))), "1 2.7.512.0", 1},
		{"a lesser size, all bytes' digest", sized(599, filed("", 6, text(600))), "1 2.7.599.0", 1},
		{"a lesser size of one piece", sized(512, filed("", 6, text(600))), "1 2.7.512.0", 0},
		{"no size", sized(0, filed("", 6, text(600))), "1 2.7.0.0", 0},
		{"no size, another digest", spoilt, "1 2.7.0.0", 0},
		{"a link", link("", text(600)[1:]), "", 0},
	} {
		p := paired(worldOf(t, api.Caps{}, fileAt("f", 6, text(600), 1)))
		p.begin(api.A, api.B, "f", ".twine/1", treeOf(t, c.n))
		for range c.steps {
			did, _ := p.step(t, c.what, 0)
			want(t, c.what+": a step", did, api.DidStage)
		}
		did, e := p.step(t, c.what, 0)
		want(t, c.what+": did", did, api.DidOvertaken)
		want(t, c.what+": error", e, api.ErrStageOther)
		want(t, c.what+": what is staged", staged(p.w), c.there)
		p.alike(t, c.what)
		isOver(t, c.what, p.stages[0], p.w)
	}
	// A lesser size, and the digest of so many bytes: that is what is brought.
	for _, size := range []int{0, 1, 511, 512, 513, 599} {
		w := worldOf(t, api.Caps{}, fileAt("f", 6, text(600), 1))
		n := filed("", 3, text(600)[:size])
		_, did, e := run(New(w, api.A, api.B, "f", ".twine/1", treeOf(t, n)))
		want(t, "a lesser size: did", did, api.DidNothing)
		want(t, "a lesser size: error", e, api.OK)
		wantText(t, "a lesser size", pictured(w, api.B, ".twine/1"), values(treeOf(t, n)))
	}
	// A directory's source is asked nothing: it may be a file.
	w := worldOf(t, api.Caps{}, fileAt("f", 6, text(600), 1))
	does(t, "a directory", New(w, api.A, api.B, "f", ".twine/1", treeOf(t, dir("", 4))), api.DidStage, api.OK)
	want(t, "what is staged", staged(w), "1 1.4.0.0")
	// A link's size must be right, too.
	n := link("", "to")
	w = worldOf(t, api.Caps{}, linkAt("l", "to", 1))
	does(t, "a link's size", New(w, api.A, api.B, "l", ".twine/1", treeOf(t, sized(3, n))), api.DidOvertaken, api.ErrStageOther)
	n.Value.Sum[0]++
	does(t, "a link's digest", New(w, api.A, api.B, "l", ".twine/1", treeOf(t, n)), api.DidOvertaken, api.ErrStageOther)
	want(t, "what is staged", staged(w), "")
}

// Every other error of the source: the step has failed with it.
func TestP16_3OtherSourceErrors(t *testing.T) {
	deep := strings.Repeat("n/", 65) + "n"
	for _, c := range []struct {
		what string
		from int
		src  string
		n    api.Node
		e    api.Errno
	}{
		{"Stat: no volume", 3, "f", filed("", 6, "abc"), api.ErrWorldVolume},
		{"Stat: no name", 0, "f/..", filed("", 6, "abc"), api.ErrPathName},
		{"Stat: too deep", 0, deep + "/n", filed("", 6, "abc"), api.ErrPathDeep},
		{"Target: no volume", -1, "l", link("", "to"), api.ErrWorldVolume},
		{"Target: no name", 0, "l/", link("", "to"), api.ErrPathName},
		{"Target: too deep", 0, deep + "/n", link("", "to"), api.ErrPathDeep},
		{"Target: the root", 0, "", link("", "to"), api.ErrWorldRoot},
	} {
		w := worldOf(t, api.Caps{}, fileAt("f", 6, "abc", 1), linkAt("l", "to", 2))
		before := told(w)
		s := New(w, c.from, api.B, c.src, ".twine/1", treeOf(t, c.n))
		does(t, c.what, s, api.DidFailed, c.e)
		isOver(t, c.what, s, w)
		wantText(t, c.what+": the world", told(w), before)
	}
	// Too deep below a source that isn't.
	w := worldOf(t, api.Caps{})
	s := New(w, api.A, api.B, deep, ".twine/1", treeOf(t, dir("", 7, filed("f", 6, ""))))
	does(t, "the directory", s, api.DidStage, api.OK)
	does(t, "too deep below", s, api.DidFailed, api.ErrPathDeep)
	// The root, where a file was: Stat may ask for it, and it is a directory.
	s = New(w, api.A, api.B, "", ".twine/2", treeOf(t, filed("", 6, "abc")))
	does(t, "Stat: the root", s, api.DidOvertaken, api.ErrStageOther)
	want(t, "what is staged", staged(w), "1 1.7.0.0")
	// The rigged ones are TestP16_3SourceCallsInOrder's. A rig goes ahead of what users did.
	w, s = kindsStage(t)
	does(t, "a step", s, api.DidStage, api.OK)
	edits{removed("d/f")}.done(t, w)
	w.Rig(api.A, 0, 1, 0, true)
	does(t, "rigged, and gone", s, api.DidFailed, api.ErrWorldFault)
}
