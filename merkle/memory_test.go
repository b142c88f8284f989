package merkle

import (
	"bytes"
	"slices"
	"testing"

	"twine/api"
)

// fill writes over a list, the spare room behind it included.
func fill(b []byte) {
	for i := range b[:cap(b)] {
		b[:cap(b)][i] = 0xEE
	}
}

// roomy: a list with spare room; and all of its memory.
func roomy(b []byte) ([]byte, []byte) {
	all := append(bytes.Clone(b), bytes.Repeat([]byte{0xAB}, 64)...)
	return all[:len(b)], all
}

func TestP5_3EachTextIsNewMemory(t *testing.T) {
	m, x := By(nil), of(t, sample())
	want, root := textsOf(m, x), m.Root(x)
	i := 0
	for b := range m.Texts(x) {
		if string(b) != want[i] {
			t.Errorf("text %d: %x", i, b)
		}
		fill(b)
		i++
	}
	l := slices.Collect(m.Texts(x))
	for i := range l {
		if string(l[i]) != want[i] {
			t.Errorf("text %d was touched by another one", i)
		}
		fill(l[i])
	}
	if m.Root(x) != root || !slices.Equal(textsOf(m, x), want) {
		t.Error("a later answer is touched")
	}
}

// The two texts of an answer, and those of two answers, share nothing.
func TestP5_4BothTextsAreNewMemory(t *testing.T) {
	m, x, y := By(zeros), of(t, sample()), of(t, wide(3))
	twoTexts(t, func() ([]byte, []byte, bool) { return m.Clash(x, y) })
	twoTexts(t, func() ([]byte, []byte, bool) { return m.Clash(x, x) })
}

func TestP5_8BothTextsAreNewMemory(t *testing.T) {
	m, x := By(zeros), of(t, sample())
	proof := prove(t, m, sample(), "d/d/x")
	twoTexts(t, func() ([]byte, []byte, bool) { return m.Forged(x, "d/d/x", link("", 1).Value, proof) })
}

func twoTexts(t *testing.T, ask func() ([]byte, []byte, bool)) {
	t.Helper()
	a, b, ok := ask()
	c, d, _ := ask()
	if !ok || !bytes.Equal(a, c) || !bytes.Equal(b, d) {
		t.Fatal("two answers of one question")
	}
	l := [][]byte{a, b, c, d}
	for i := range l {
		want := [][]byte{bytes.Clone(a), bytes.Clone(b), bytes.Clone(c), bytes.Clone(d)}
		fill(l[i])
		for j := range l {
			if j != i && !bytes.Equal(l[j], want[j]) {
				t.Errorf("text %d touches text %d", i, j)
			}
		}
	}
	if e, f, ok := ask(); !ok || bytes.Contains(e, []byte{0xEE, 0xEE}) || bytes.Contains(f, []byte{0xEE, 0xEE}) {
		t.Error("a later answer is touched")
	}
}

func TestP5_5ProofsAreNewMemory(t *testing.T) {
	m, x := By(nil), of(t, sample())
	for _, p := range samplePaths() {
		b := prove(t, m, sample(), p)
		first, _ := m.Prove(x, p)
		second, _ := m.Prove(x, p)
		fill(first)
		third, _ := m.Prove(x, p)
		if !bytes.Equal(second, b) || !bytes.Equal(third, b) {
			t.Errorf("%q: an answer is touched", p)
		}
	}
}

// What is handed in stays as it was, and what is done with it later shows nowhere.
func TestP5_6ProofsAreNotTouched(t *testing.T) {
	for _, by := range sums() {
		m := By(by)
		for _, x := range proofs(t, by) {
			b, all := roomy(x.proof)
			was := bytes.Clone(all)
			m.Holds(x.root, x.p, x.v, b)
			m.Forged(of(t, sample()), x.p, x.v, b)
			if !bytes.Equal(all, was) {
				t.Fatalf("%q: the proof was changed", x.p)
			}
		}
	}
}

func TestP5_8ProofsAreNotKept(t *testing.T) {
	m, x := By(zeros), of(t, sample())
	for _, p := range []string{"d/d/x", "d/dd", "a/q", ""} {
		for _, v := range []api.Value{link("", 1).Value, {}, dir("", 3).Value} {
			proof := prove(t, m, sample(), p)
			a, b, ok := m.Forged(x, p, v, proof)
			c, d := bytes.Clone(a), bytes.Clone(b)
			fill(proof)
			if ok && (!bytes.Equal(a, c) || !bytes.Equal(b, d)) {
				t.Errorf("%q: a text lies in the proof", p)
			}
			e := bytes.Clone(proof)
			fill(a)
			fill(b)
			if !bytes.Equal(proof, e) {
				t.Errorf("%q: the proof lies in a text", p)
			}
		}
	}
}

// A sum that writes over what it is handed, and one that keeps it and writes over it later, show nowhere.
func TestP5_SumsMayDoWhatTheyLike(t *testing.T) {
	for name, by := range sums() {
		var kept [][]byte
		m, plainly := By(func(b []byte) [32]byte {
			s := by(b)
			fill(b)
			kept = append(kept, b)
			return s
		}), By(by)
		x, y := of(t, sample()), of(t, wide(5))
		if m.Root(x) != plainly.Root(x) || !slices.Equal(textsOf(m, x), textsOf(plainly, x)) {
			t.Errorf("%s: it shows in the texts", name)
		}
		proof, _ := m.Prove(x, "d/dd")
		if !bytes.Equal(proof, prove(t, plainly, sample(), "d/dd")) || !m.Holds(m.Root(x), "d/dd", api.Value{}, proof) {
			t.Errorf("%s: it shows in a proof", name)
		}
		a, b, _ := m.Clash(x, y)
		c, d, _ := m.Forged(x, "d/dd", api.Value{}, proof)
		for _, b := range kept {
			fill(b)
		}
		e, f, _ := plainly.Clash(x, y)
		g, h, _ := plainly.Forged(x, "d/dd", api.Value{}, proof)
		if !bytes.Equal(a, e) || !bytes.Equal(b, f) || !bytes.Equal(c, g) || !bytes.Equal(d, h) {
			t.Errorf("%s: it shows in two texts of one sum", name)
		}
	}
}

// What a hasher was asked before, or by whom at once, shows in no answer.
func TestP5_ManyAtOnce(t *testing.T) {
	m, x := By(nil), of(t, sample())
	root, texts := m.Root(x), textsOf(m, x)
	done := make(chan bool)
	for range 8 {
		go func() {
			proof, _ := m.Prove(x, "d/d/x")
			v, _ := x.At("d/d/x")
			done <- m.Root(x) == root && slices.Equal(textsOf(m, x), texts) && m.Holds(root, "d/d/x", v, proof)
		}()
	}
	for range 8 {
		if !<-done {
			t.Error("an answer hangs on the others")
		}
	}
}
