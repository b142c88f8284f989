package scan

import (
	"fmt"
	"runtime"
	"strings"
	"sync"
	"testing"

	"twine/api"
	"twine/tree"
)

// Lists that were handed out may be written over, their spare room too: nothing that is told later is touched by it, nor what was told before.
func TestP12_4ListsAreNew(t *testing.T) {
	for _, workers := range []int{0, 3} {
		w := between(t)
		w.Rig(api.A, 13, 3, 0, true)
		r, o := ruled(t, "skip x\nskip l"), first(t)
		s, model := New(w, api.A, r, o), newPlain(w.Copy(), api.A, r, o)
		for model.step() {
			if workers == 0 {
				s.Step()
			} else {
				s.Run(NewCancel(1), workers)
			}
			one, other := s.Lost(), s.Held()
			for i := range one[:cap(one)] {
				one[:cap(one)][i] = api.Lost{Path: "waste", Err: 1}
			}
			for i := range other[:cap(other)] {
				other[:cap(other)][i] = "waste"
			}
			kept, more := s.Lost(), s.Held()
			held(t, "behind a step", s, w, model)
			if len(kept) > 0 {
				s.Lost()[0].Path = "waste"
				want(t, "Lost", kept[0].Path == "waste", false)
			}
			if len(more) > 0 {
				s.Held()[0] = "waste"
				want(t, "Held", more[0], "")
			}
			_ = append(kept, api.Lost{Path: "waste"})
			_ = append(more, "waste")
		}
		want(t, "there are lost ones", len(s.Lost()) > 0, true)
		want(t, "there are held ones", len(s.Held()) > 1, true)
	}
}

// A tree that was told stays as it was, whatever steps come.
func TestP12_4TreesStay(t *testing.T) {
	w := between(t)
	s := New(w, api.A, ruled(t, ""), first(t))
	var trees []*tree.Tree
	var texts []string
	for more := true; more; more = s.Step() {
		trees, texts = append(trees, s.Tree()), append(texts, flat(s.Tree()))
	}
	for i := range trees {
		wantText(t, fmt.Sprintf("behind %d steps", i), flat(trees[i]), texts[i])
	}
}

// The archive's tree and the rules stay as they are, and serve several scans.
func TestP12_1ArchiveAndRulesStay(t *testing.T) {
	w := between(t)
	r := ruled(t, "skip x")
	s := New(w, api.A, r, first(t))
	toEnd(t, s)
	o := s.Tree()
	before := flat(o)
	for range 3 {
		u := New(w, api.A, r, o)
		wantText(t, "steps", toEnd(t, u), "/ /d /d/f /d/s /d/t /e /l")
		wantText(t, "the archive's tree", flat(o), before)
		wantText(t, "Tree", flat(u.Tree()), before)
		want(t, "rules", r.Text(), "skip x")
	}
}

// Scans of worlds of their own don't touch one another, by the same rules and archive, with one cancel.
func TestP12_5Apart(t *testing.T) {
	r, o, c := ruled(t, "skip *.o"), first(t), NewCancel(-1)
	w, _ := busy(t, api.A)
	one := New(w.Copy(), api.A, r, o)
	steps := one.Run(c, 1)
	wanted := flat(one.Tree())
	var group sync.WaitGroup
	for range 8 {
		u := w.Copy()
		group.Go(func() {
			s := New(u, api.A, r, o)
			want(t, "Run", s.Run(c, 3), steps)
			if flat(s.Tree()) != wanted {
				t.Errorf("Tree: %s", flat(s.Tree()))
			}
		})
	}
	group.Wait()

	c = NewCancel(3*steps + 1) // shared by Runs that go on at the same time
	var sum [8]int
	for i := range sum {
		u := w.Copy()
		group.Go(func() { sum[i] = New(u, api.A, r, o).Run(c, 2) })
	}
	group.Wait()
	all := 0
	for _, n := range sum {
		all += n
	}
	want(t, "steps of all Runs", all, 3*steps+1)
}

// Files that lie deep are kept by their names: their paths' texts would be more than their volume by far.
func TestP12_4DeepFilesAreKeptShort(t *testing.T) {
	const files, depth = 2000, 60
	w := worldOf(t, api.A, 3, dirAt("d", 7, 1, 1))
	for i := range files {
		wantOK(t, "a file", w.Edit(api.A, api.Edit{Kind: api.EditFile, Path: fmt.Sprintf("d/%d", i), Data: []byte("x")}))
	}
	p := ""
	for range depth {
		p = below(p, strings.Repeat("n", 250))
		wantOK(t, "a directory", w.Edit(api.A, api.Edit{Kind: api.EditMkdir, Path: p}))
	}
	p += "/d"
	wantOK(t, "a move", w.Edit(api.A, api.Edit{Kind: api.EditRename, Path: "d", To: p}))
	s := New(w, api.A, ruled(t, ""), first(t))
	var before, behind runtime.MemStats
	runtime.GC()
	runtime.ReadMemStats(&before)
	want(t, "steps", s.Run(NewCancel(-1), 4), 1+depth+1+files)
	runtime.GC()
	runtime.ReadMemStats(&behind)
	if grown := int(behind.HeapAlloc) - int(before.HeapAlloc); grown > files*len(p)/4 {
		t.Errorf("%d bytes are kept", grown)
	}
	m, _, ok := s.Thing(p + "/7")
	want(t, "Thing", ok, true)
	want(t, "Thing", m.Stamp, 3)
	runtime.KeepAlive(w)
}

// Many files: in one directory, and far down.
func TestP12_6ManyFiles(t *testing.T) {
	var l []api.Thing
	for i := range 6000 {
		l = append(l, fileAt(fmt.Sprintf("n%04d", i), i%8, text(i%1100), 1+i, 1))
	}
	p := ""
	for i := range 63 {
		p = below(p, "d")
		l = append(l, dirAt(p, i%8, 10000+i, 1), fileAt(p+"/f", i%8, text(i*100), 20000+i, 1))
	}
	w := worldOf(t, api.A, 2, l...)
	for _, workers := range []int{1, 8} {
		s := New(w, api.A, ruled(t, ""), first(t))
		s.Run(NewCancel(-1), workers)
		wantText(t, "Tree", values(s.Tree()), pictured(w, api.A, ruled(t, "")))
		u := New(w, api.A, ruled(t, ""), s.Tree())
		want(t, "steps, all quick", u.Run(NewCancel(-1), workers), 1+len(l))
		wantText(t, "Tree, all quick", flat(u.Tree()), flat(s.Tree()))
	}
}
