package patch

import (
	"crypto/sha256"
	"fmt"
	"math/rand"
	"testing"

	"twine/api"
	"twine/merkle"
	"twine/tree"
)

// meter: a sum that counts its calls, and how many P8.4 grants.
type meter struct {
	sum           summer
	calls, grants int
}

func (m *meter) count(b []byte) [32]byte {
	m.calls++
	return m.sum(b)
}

// begun: a patch over a meter.
func (m *meter) begun(t *testing.T, n api.Node, most int) *Patch {
	t.Helper()
	m.calls, m.grants = 0, texts(n)
	x := made(t, n, most, m.count)
	m.look(t, "New")
	return x
}

// replace tells whether a Replace went well, and holds its calls against what is granted.
func (m *meter) replace(t *testing.T, x *Patch, p string, s *tree.Tree) bool {
	t.Helper()
	before, calls := x.Tree(), m.calls
	if e := x.Replace(p, s); e != api.OK {
		if m.calls != calls {
			t.Errorf("%q, refused by %v: %d calls", p, e, m.calls-calls)
		}
		return false
	}
	m.grants += room(before, x.Tree(), p, s)
	m.look(t, p)
	return true
}

func (m *meter) look(t *testing.T, what string) {
	t.Helper()
	if m.calls > m.grants {
		t.Errorf("%q: %d calls up to now, at most %d", what, m.calls, m.grants)
	}
}

// ask asks all that may be asked: no Replace is made dearer by that.
func (m *meter) ask(t *testing.T, x *Patch) {
	t.Helper()
	x.Bytes()
	x.Root()
	x.Tree()
	m.look(t, "asked")
}

// The plain count of texts is layer 5's.
func TestP8_4Texts(t *testing.T) {
	for what, n := range roots() {
		count := 0
		for range merkle.By(nil).Texts(of(t, n)) {
			count++
		}
		if count != texts(n) {
			t.Errorf("%s: %d texts, want %d", what, texts(n), count)
		}
	}
}

func TestP8_4New(t *testing.T) {
	for _, n := range roots() {
		m := &meter{sum: sha256.Sum256}
		x := m.begun(t, n, api.MaxNodes)
		for range 3 {
			m.ask(t, x)
		}
	}
}

func TestP8_4RefusedNew(t *testing.T) {
	calls := 0
	sum := func(b []byte) [32]byte { calls++; return [32]byte{} }
	for _, n := range []api.Node{file("", 6, 1), link("", 1), four(), wide(200)} {
		if x, e := New(of(t, n), 4, sum); x != nil || e == api.OK || calls > 0 {
			t.Errorf("%v, %d calls", e, calls)
		}
	}
}

// In directories of every width: another child at each place, one more at each place, each one gone; one Replace a patch, so that none pays for the other.
func TestP8_4EachChild(t *testing.T) {
	m := &meter{sum: sums()["a byte"]}
	f, d := of(t, file("", 6, 1<<20)), of(t, dir("", 5, wide(3).Kids...))
	for n := range 40 {
		for i := range n + 1 {
			for _, s := range []*tree.Tree{f, d, nil} {
				for _, p := range []string{nameOf(i), nameOf(i) + "+"} {
					x := m.begun(t, wide(n), api.MaxNodes)
					m.replace(t, x, p, s)
				}
			}
		}
	}
}

// For a directory far above its width alone counts, halved and halved again, however wide it is.
func TestP8_4WideAbove(t *testing.T) {
	for _, n := range []int{1, 2, 3, 4, 5, 64, 65, 1000} {
		root := wide(n)
		root.Kids[n/2] = dir(nameOf(n/2), 7, wide(n).Kids...)
		m := &meter{sum: sha256.Sum256}
		x := m.begun(t, root, api.MaxNodes)
		at := nameOf(n/2) + "/" + nameOf(n-1)
		for i := range 20 {
			calls := m.calls
			if !m.replace(t, x, at, of(t, file("", 1, i))) {
				t.Fatalf("%s: refused", at)
			}
			if most := 1 + 2*(2+halvings(n)); m.calls-calls > most {
				t.Errorf("%d children: %d calls, at most %d", n, m.calls-calls, most)
			}
		}
	}
}

// The same Replace again and again, and the same subtree at several places: each is granted its own calls, and no more.
func TestP8_4SameAgain(t *testing.T) {
	m := &meter{sum: sha256.Sum256}
	x := m.begun(t, some(), api.MaxNodes)
	s := of(t, some())
	for i := range 40 {
		for _, p := range []string{"a/s", "e/s", "s", "a/s", "a/b/s", "s"} {
			if !m.replace(t, x, p, s) {
				t.Fatalf("%s: refused", p)
			}
		}
		if i%4 == 0 {
			m.replace(t, x, "s", nil)
			m.replace(t, x, "", s)
			m.replace(t, x, "", s)
		}
		m.ask(t, x)
	}
}

// Grown from nothing, and taken away again: at the end, at the beginning, in the middle.
func TestP8_4GrownAndGone(t *testing.T) {
	for _, sum := range sums() {
		for turn := range 3 {
			m := &meter{sum: sum}
			x := m.begun(t, dir("", 7, dir("d", 7)), api.MaxNodes)
			names := rand.New(rand.NewSource(int64(turn))).Perm(70)
			for i := range names {
				if turn > 0 {
					names[i] = []int{0, i, 69 - i}[turn]
				}
				m.replace(t, x, "d/"+nameOf(names[i]), of(t, file("", i%9, i)))
			}
			for _, i := range names {
				m.replace(t, x, "d/"+nameOf(i), nil)
			}
			if x.Tree().Count() != 2 {
				t.Errorf("%d things are left", x.Tree().Count())
			}
		}
	}
}

// What stands over the children ahead of the one that comes or goes isn't summed again: at the end of a directory that costs no more than an exchange there.
func TestP8_4AheadOfItStays(t *testing.T) {
	m := &meter{sum: sha256.Sum256}
	for n := 1; n <= 130; n++ {
		x := m.begun(t, wide(n), api.MaxNodes)
		for _, c := range []struct {
			what string
			s    *tree.Tree
			most int
		}{
			{"one more", of(t, link("", 1)), 1 + 2 + halvings(n+1)},
			{"and gone", nil, 2 + halvings(n)},
		} {
			calls := m.calls
			if !m.replace(t, x, nameOf(n), c.s) {
				t.Fatalf("%d children, %s: refused", n, c.what)
			}
			if m.calls-calls > c.most {
				t.Errorf("%d children, %s: %d calls, at most %d", n, c.what, m.calls-calls, c.most)
			}
		}
	}
}

// author: it makes up Replaces.
type author struct {
	r     *rand.Rand
	trees []*tree.Tree
}

func newAuthor(t *testing.T, seed int64) *author {
	a := &author{r: rand.New(rand.NewSource(seed))}
	for range 12 {
		left := 20
		a.trees = append(a.trees, of(t, randomThing(a.r, &left, 0)))
	}
	for _, n := range []int{0, 1, 2, 3, 40} {
		a.trees = append(a.trees, of(t, wide(n)))
	}
	return a
}

// next tells a path and what is to stand there: most paths are there, or beside one that is; some are none.
func (a *author) next(t *tree.Tree) (string, *tree.Tree) {
	p := a.path(t)
	switch a.r.Intn(10) {
	case 0, 1, 2:
		return p, nil
	case 3: // something of the tree itself, which may be the same that is there
		s, _ := t.Sub(a.there(t))
		return p, s
	}
	return p, a.trees[a.r.Intn(len(a.trees))]
}

func (a *author) there(t *tree.Tree) string {
	left, at := a.r.Intn(t.Count()), ""
	for p := range t.All() {
		if at = p; left == 0 {
			break
		}
		left--
	}
	return at
}

func (a *author) path(t *tree.Tree) string {
	switch a.r.Intn(12) {
	case 0:
		l := wrongPaths()
		return l[a.r.Intn(len(l))]
	case 1, 2, 3, 4:
		return below(a.there(t), string(rune('a'+a.r.Intn(8))))
	case 5:
		return below(a.there(t), nameOf(a.r.Intn(50)))
	}
	return a.there(t)
}

// Long runs of all sorts of Replaces, refused ones too, asked now and then.
func TestP8_4LongRuns(t *testing.T) {
	seed, done, refused := int64(0), 0, 0
	for name, sum := range sums() {
		for range 6 {
			seed++
			a, m := newAuthor(t, seed), &meter{sum: sum}
			x := m.begun(t, randomTree(a.r, 40), 300)
			for i := range 400 {
				p, s := a.next(x.Tree())
				if m.replace(t, x, p, s) {
					done++
				} else {
					refused++
				}
				if a.r.Intn(20) == 0 {
					m.ask(t, x)
					alike(t, fmt.Sprint(name, ", step ", i), told(x), plainly(x.Tree(), sum))
				}
			}
			alike(t, name, told(x), plainly(x.Tree(), sum))
			if t.Failed() {
				t.Fatalf("%s, seed %d", name, seed)
			}
		}
	}
	if done < 5000 || refused < 1000 {
		t.Errorf("%d were done, %d refused: too few", done, refused)
	}
}
