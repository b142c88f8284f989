package recon

import (
	"fmt"
	"testing"

	"twine/api"
	"twine/tree"
)

// full: each kind, at several depths, files with marks.
func full() api.Node {
	return dir("", api.Unknown,
		dir("d", 5, marked(file("f", 1), 3), dir("g", 7, link("l", 2), marked(file("x.o", 2), 5)), file("x.o", 2)),
		file("d.x", 4),
		dir("e.o", 7, marked(file("f", 1), 7), dir("h", 7, file("i", 1))),
		marked(file("f", 9), 9),
		link("l.o", 3),
	)
}

func TestP14_1What(t *testing.T) {
	for _, c := range []struct {
		rules string
		want  api.Node
	}{
		{"", full()},
		{"# skip *\nprefer a *\nprefer b **", full()},
		{"skip nn\nskip /x.o\nskip d/l\nskip f/d", full()},
		{"skip /f", dir("", 8, full().Kids[0], full().Kids[1], full().Kids[2], full().Kids[4])},
		{"skip f", dir("", 8, dir("d", 5, full().Kids[0].Kids[1], file("x.o", 2)), file("d.x", 4), dir("e.o", 7, full().Kids[2].Kids[1]), link("l.o", 3))},
		{"skip d", dir("", 8, full().Kids[1], full().Kids[2], full().Kids[3], full().Kids[4])},
		{"skip d/**", dir("", 8, full().Kids[1], full().Kids[2], full().Kids[3], full().Kids[4])},
		{"skip d/*", dir("", 8, dir("d", 5), full().Kids[1], full().Kids[2], full().Kids[3], full().Kids[4])},
		{"skip *.o", dir("", 8, dir("d", 5, marked(file("f", 1), 3), dir("g", 7, link("l", 2))), file("d.x", 4), marked(file("f", 9), 9))},
		{"skip d/g\nskip e.o/h", dir("", 8, dir("d", 5, marked(file("f", 1), 3), file("x.o", 2)), file("d.x", 4), dir("e.o", 7, marked(file("f", 1), 7)), full().Kids[3], full().Kids[4])},
		{"skip *", dir("", 8)},
		{"skip **", dir("", 8)},
		{"skip /**", dir("", 8)},
		{"skip *\nskip d/f\nskip i", dir("", 8)},
	} {
		x := of(t, full())
		wantTree(t, c.rules, Trim(x, parsed(t, c.rules)), c.want)
		wantTree(t, c.rules+": o", x, full())
	}
}

// The root is let be by no rule; below a root that is no directory there is nothing.
func TestP14_1Root(t *testing.T) {
	for _, n := range []api.Node{top(), dir("", 0), dir("", api.Unknown), marked(file("", 1), 1), link("", 1)} {
		for _, text := range []string{"", "skip *", "skip **", "skip ?", "skip /**\nskip /*"} {
			wantTree(t, text, Trim(of(t, n), parsed(t, text)), n)
		}
	}
}

func TestP14_1Deep(t *testing.T) {
	n := chain(file("", 1), 64)
	wantTree(t, "all", Trim(of(t, n), parsed(t, "skip z")), dir("", 5))
	wantTree(t, "the last", Trim(of(t, n), parsed(t, "skip "+zs(64))), chain(dir("", 5), 63))
	wantTree(t, "none", Trim(of(t, n), parsed(t, "skip "+zs(65))), n)
}

// Just the paths that aren't let be are left, with their values and marks.
func TestP14_1RandomTrees(t *testing.T) {
	a := newAuthor(1)
	texts := []string{"", "skip a", "skip a/b\nskip c", "skip **/b/**", "skip /*/a*", "skip b*/c\nskip c/b", "skip a.b", "skip ?/?/?"}
	for i := range 2000 {
		n, r := a.forgetful(a.tree(4)), parsed(t, texts[a.Intn(len(texts))])
		x := of(t, n)
		y := Trim(x, r)
		want := flat(n)
		for p := range want {
			if r.Skip(p) {
				delete(want, p)
			}
		}
		got := flat(y.Node())
		if !got.same(want, false) {
			t.Fatalf("%d: %s: %v", i, r.Text(), got)
		}
		for p := range got {
			s, _ := x.Sub(p)
			if u, _ := y.Sub(p); s.Marks() != u.Marks() {
				t.Fatalf("%d: %s: the marks of %s", i, r.Text(), p)
			}
		}
		wantTree(t, "o", x, n)
		wantTree(t, "once more", Trim(y, r), y.Node())
	}
}

// Trees that share what is the same stay what they were.
func TestP14_1Shared(t *testing.T) {
	x := of(t, full())
	d, _ := x.Sub("d")
	y, _ := x.Put("e.o/h", d)
	z := Trim(y, parsed(t, "skip /d/*\nskip e.o/h/g"))
	if s, ok := z.Sub("e.o/h/f"); !ok || s.Count() != 1 {
		t.Error("e.o/h/f is gone")
	}
	for _, p := range []string{"d/f", "d/g", "d/x.o", "e.o/h/g", "e.o/h/g/l"} {
		if _, ok := z.At(p); ok {
			t.Error(p)
		}
	}
	wantTree(t, "x", x, full())
	wantTree(t, "d", d, named("", full().Kids[0]))
}

func TestP14_1Many(t *testing.T) {
	n, want := top(), top()
	for i := range 20000 {
		n.Kids = append(n.Kids, file(fmt.Sprintf("f%05d", i), 1))
		if i%10 == 7 {
			want.Kids = append(want.Kids, n.Kids[i])
		}
	}
	x := Trim(of(t, n), parsed(t, "skip *[0-9]\nskip f????[!7]\nskip *0\nskip *1\nskip *2\nskip *3\nskip *4\nskip *5\nskip *6\nskip *8\nskip *9"))
	if !tree.Same(x, of(t, want), false) {
		t.Errorf("%d nodes", x.Count())
	}
}
