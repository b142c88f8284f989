package path

import (
	"slices"
	"strings"
	"testing"
)

// order holds two texts against P3.5 by their pieces.
func order(a, b string) int {
	x, y := cutText(a), cutText(b)
	for i := range min(len(x), len(y)) {
		if c := strings.Compare(x[i], y[i]); c != 0 {
			return c
		}
	}
	switch {
	case len(x) < len(y):
		return -1
	case len(x) > len(y):
		return 1
	}
	return 0
}

// rising: texts in their order, with bytes below and above '/', and such that begin others.
var rising = []string{"", "/", "//", "//a", "/\x00", "/a", "\x00", "\x00/\x00", "\x00\x00", ".", "./a", "a", "a/", "a//", "a/\x00", "a/a", "a/b", "a/b/", "a/b/c", "a/b/c/d", "a/b!", "a/bc", "a\x00", "a\x00/z", "a!", "a.", "a.b", "a.b/x", "a0", "a0/x", "aa", "a\xff", "b", "é", "\xff", "\xff/a"}

func TestP3_5Rising(t *testing.T) {
	for i, a := range rising {
		for j, b := range rising {
			want := 0
			if i < j {
				want = -1
			} else if i > j {
				want = 1
			}
			if got := Compare(a, b); got != want {
				t.Errorf("Compare(%q, %q): %d", a, b, got)
			}
		}
	}
}

func TestP3_5AllShortTexts(t *testing.T) {
	texts := textsOver("a/.0\x00", 4)
	for _, a := range texts {
		for _, b := range texts {
			if got := Compare(a, b); got != order(a, b) {
				t.Fatalf("Compare(%q, %q): %d", a, b, got)
			}
		}
	}
}

func TestP3_5EveryByte(t *testing.T) {
	for i := range 256 {
		for j := range 256 {
			a, b := "x"+string([]byte{byte(i)})+"y", "x"+string([]byte{byte(j)})+"x"
			if got := Compare(a, b); got != order(a, b) {
				t.Errorf("Compare(%q, %q): %d", a, b, got)
			}
		}
	}
}

func TestP3_5LongTexts(t *testing.T) {
	long := strings.Repeat("long/", 1<<16)
	for _, c := range []struct {
		a, b string
		want int
	}{{long, long, 0}, {long, long + "a", -1}, {long + "a/b", long + "a.b", -1}, {long + "b", long + "a", 1}} {
		if Compare(c.a, c.b) != c.want || Compare(c.b, c.a) != -c.want {
			t.Errorf("%q, %q: %d", c.a[len(long):], c.b[len(long):], Compare(c.a, c.b))
		}
	}
}

func TestP3_5Sorted(t *testing.T) {
	for i, c := range [][2][]string{
		{nil, nil}, {{}, {}}, {{"a"}, {"a"}}, {{""}, {""}}, {{"b", "a"}, {"a", "b"}}, {{"a.b", "a/b", "a"}, {"a", "a/b", "a.b"}},
		{{"b", "", "a", "b", "", "a/b", "b"}, {"", "", "a", "a/b", "b", "b", "b"}},
		{{"//", "/", "", "/", "\x00"}, {"", "/", "/", "//", "\x00"}},
	} {
		if got := Sorted(c[0]); !slices.Equal(got, c[1]) {
			t.Errorf("row %d: %q", i, got)
		}
	}
	var mixed, twice []string
	for i, s := range rising {
		twice = append(twice, s, s)
		mixed = append(mixed, rising[(i*7+5)%len(rising)], rising[(i*5+3)%len(rising)])
	}
	if len(rising)%7 == 0 || len(rising)%5 == 0 {
		t.Fatal("the steps don't come to all places")
	}
	if got := Sorted(mixed); !slices.Equal(got, twice) {
		t.Errorf("%q", got)
	}
}

func TestP3_5SortedManyTexts(t *testing.T) {
	texts := textsOver("a/.\x00", 6)
	given := slices.Clone(texts)
	slices.Reverse(given)
	got := Sorted(given)
	if !slices.IsSortedFunc(got, order) {
		t.Error("out of order")
	}
	slices.Sort(got)
	slices.Sort(texts)
	if !slices.Equal(got, texts) {
		t.Error("other texts")
	}
}

func TestP3_5SortedListUntouched(t *testing.T) {
	room := []string{"c", "b", "a", "spare", "spare", "spare"}
	given := room[:3]
	first := Sorted(given)
	if !slices.Equal(room, []string{"c", "b", "a", "spare", "spare", "spare"}) {
		t.Errorf("changed: %q", room)
	}
	second := Sorted(given)
	given[0] = "x"
	first[0] = "y"
	_ = append(first[:cap(first)], "z")
	clear(first[:cap(first)])
	if !slices.Equal(second, []string{"a", "b", "c"}) || !slices.Equal(room, []string{"x", "b", "a", "spare", "spare", "spare"}) {
		t.Errorf("kept: %q, %q", second, room)
	}
	rising := []string{"a", "b", "c"}
	if got := Sorted(rising[:1:3]); cap(got) > 0 {
		clear(got[:cap(got)])
		if !slices.Equal(rising, []string{"a", "b", "c"}) {
			t.Errorf("a list that is sorted already: %q", rising)
		}
	}
	if got := Sorted(rising[:0]); len(got) != 0 {
		t.Errorf("%q", got)
	} else {
		clear(got[:cap(got)])
		if rising[0] != "a" {
			t.Errorf("the spare room of an empty list: %q", rising)
		}
	}
}

func TestP3_9Order(t *testing.T) {
	texts := append(textsOver("a/.", 4), rising...)
	for _, a := range texts {
		for _, b := range texts {
			if Compare(b, a) != -Compare(a, b) || (Compare(a, b) == 0) != (a == b) {
				t.Fatalf("%q, %q", a, b)
			}
		}
	}
	texts = append(textsOver("a/\x00", 3), rising...)
	for _, a := range texts {
		for _, b := range texts {
			for _, c := range texts {
				if Compare(a, b) <= 0 && Compare(b, c) <= 0 && Compare(a, c) > 0 {
					t.Fatalf("%q, %q, %q", a, b, c)
				}
			}
		}
	}
}

func TestP3_9DirectlyAhead(t *testing.T) {
	texts := append(textsOver("a/\x00.", 3), rising...)
	for _, a := range texts {
		for _, p := range texts {
			if !Under(p, a) {
				continue
			}
			if p != a && Compare(a, p) != -1 {
				t.Fatalf("%q isn't ahead of %q", a, p)
			}
			for _, b := range texts {
				if Compare(a, b) == -1 && Compare(b, p) == -1 && !Under(b, a) {
					t.Fatalf("%q stands between %q and %q", b, a, p)
				}
			}
		}
	}
}

func TestP3_Example2(t *testing.T) {
	want := []string{"", "a", "a/b", "a/b/c", "a.b", "b"}
	if got := Sorted([]string{"b", "a.b", "a/b/c", "a/b", "a", ""}); !slices.Equal(got, want) {
		t.Errorf("%q", got)
	}
	if !Under("a/b", "a") || !Under("a", "a") || !Under("a", "") || Under("ab", "a") {
		t.Error("Under")
	}
	if up, last := Above("a/b/c"); up != "a/b" || last != "c" {
		t.Errorf("%q, %q", up, last)
	}
	if up, last := Above("a"); up != "" || last != "a" {
		t.Errorf("%q, %q", up, last)
	}
}
