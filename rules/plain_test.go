package rules

import (
	"math/rand"
	"slices"
	"strings"
	"testing"

	"twine/api"
	"twine/path"
)

// Rules written down plainly: a list that is gone through for each question.

// plain: rules as a list alone.
type plain []api.Rule

// plainLines: a text's lines, gathered byte by byte.
func plainLines(text string) []string {
	lines, line := []string{}, ""
	for i := 0; i < len(text); i++ {
		if text[i] == 0x0A {
			lines = append(lines, line)
			line = ""
			continue
		}
		line += text[i : i+1]
	}
	return append(lines, line)
}

// plainRule: what a line is: its kind (0: none) and its pattern.
func plainRule(line string) (int, string) {
	switch {
	case len(line) >= 5 && line[:5] == "skip ":
		return 1, line[5:]
	case len(line) >= 9 && line[:9] == "prefer a ":
		return 2, line[9:]
	case len(line) >= 9 && line[:9] == "prefer b ":
		return 3, line[9:]
	}
	return 0, ""
}

func plainParse(text string) (plain, int, api.Errno) {
	if len(text) > 4000 {
		return nil, 0, 110
	}
	var list plain
	for i, line := range plainLines(text) {
		if len(line) == 0 || line[0] == '#' {
			continue
		}
		what, pattern := plainRule(line)
		if what == 0 {
			return nil, i + 1, 112
		}
		if len(list) == 64 {
			return nil, i + 1, 111
		}
		if _, e := path.Match(pattern, "x"); e != api.OK {
			return nil, i + 1, 113
		}
		list = append(list, api.Rule{What: what, Pattern: pattern})
	}
	return list, 0, api.OK
}

// hits: whether a pattern matches a text that is a path.
func hits(pattern, p string) bool {
	ok, e := path.Match(pattern, p)
	return ok && e == api.OK
}

func isPath(p string) bool {
	_, e := path.Split(p, 64)
	return e == api.OK
}

// skip goes from p up, rule by rule.
func (l plain) skip(p string) bool {
	for q := p; isPath(p) && q != ""; q, _ = path.Above(q) {
		for _, x := range l {
			if x.What == 1 && hits(x.Pattern, q) {
				return true
			}
		}
	}
	return false
}

// prefer goes from the first rule to the last, each that speaks taking the place of what was said.
func (l plain) prefer(p string) int {
	side := 0
	for _, x := range l {
		if x.What != 1 && hits(x.Pattern, p) {
			side = x.What - 1
		}
	}
	return side
}

func (l plain) text() string {
	s := ""
	for i, x := range l {
		if i > 0 {
			s += "\x0A"
		}
		switch x.What {
		case 1:
			s += "skip "
		case 2:
			s += "prefer a "
		case 3:
			s += "prefer b "
		}
		s += x.Pattern
	}
	return s
}

func (l plain) mirror() plain {
	var m plain
	for _, x := range l {
		if x.What != 1 {
			x.What = 5 - x.What
		}
		m = append(m, x)
	}
	return m
}

func want[T comparable](t *testing.T, what string, got, wanted T) {
	t.Helper()
	if got != wanted {
		t.Errorf("%.100q: %#v, want %#v", what, got, wanted)
	}
}

func wantList(t *testing.T, what string, got []api.Rule, wanted plain) {
	t.Helper()
	if !slices.Equal(got, []api.Rule(wanted)) {
		t.Errorf("%.100q: %#v, want %#v", what, got, wanted)
	}
}

// parsed: the rules of a text that is right.
func parsed(t *testing.T, text string) *Rules {
	t.Helper()
	r, line, e := Parse(text)
	if r == nil || line != 0 || e != api.OK {
		t.Fatalf("Parse of %.100q: %v, %d, %d", text, r != nil, line, e)
	}
	return r
}

// refused: a text that is wrong, by that line and that error; no rules.
func refused(t *testing.T, text string, line int, e api.Errno) {
	t.Helper()
	r, gotLine, got := Parse(text)
	if r != nil || gotLine != line || got != e {
		t.Errorf("Parse of %.100q (%d bytes): %v, %d, %d, want nil, %d, %d", text, len(text), r != nil, gotLine, got, line, e)
	}
}

// alike holds all that rules tell against a plain list.
func alike(t *testing.T, what string, r *Rules, l plain, paths []string) {
	t.Helper()
	wantList(t, what+": List", r.List(), l)
	want(t, what+": Text", r.Text(), l.text())
	for _, p := range paths {
		if r.Skip(p) != l.skip(p) || r.Prefer(p) != l.prefer(p) {
			t.Errorf("%.100q: of %.100q: %v, %d, want %v, %d", what, p, r.Skip(p), r.Prefer(p), l.skip(p), l.prefer(p))
		}
	}
}

// reads holds Parse of any text against the plain one, and its mirror too.
func reads(t *testing.T, text string, paths []string) {
	t.Helper()
	l, line, e := plainParse(text)
	if e != api.OK {
		refused(t, text, line, e)
		return
	}
	r := parsed(t, text)
	alike(t, text, r, l, paths)
	alike(t, text+", the mirror", r.Mirror(), l.mirror(), paths)
	alike(t, text+", the mirror's mirror", r.Mirror().Mirror(), l, paths)
}

// fewPaths: paths, and texts that are none.
func fewPaths() []string {
	return []string{"", "a", "b", "a/b", "b/a", "a/a/b", "b/a/a", "ab", "a b", "#", "*", "a\n", "a\r", "\xFF", "/", "/a", "a/", "a//b", "a/.", "a/..", ".", "a\x00"}
}

// manyPaths: all paths of up to four of these names.
func manyPaths() []string {
	paths, last := []string{""}, []string{""}
	for range 4 {
		var next []string
		for _, p := range last {
			for _, name := range []string{"a", "b", "a.o"} {
				next = append(next, path.Join(slices.DeleteFunc([]string{p, name}, func(s string) bool { return s == "" })))
			}
		}
		paths, last = append(paths, next...), next
	}
	return paths
}

// manyRules: texts of rules by chance, all of them right.
func manyRules(seed int64, n int) []string {
	by := rand.New(rand.NewSource(seed))
	words := []string{"skip ", "prefer a ", "prefer b "}
	patterns := []string{"a", "b", "*.o", "/a", "/a/b", "a/*", "a/**", "**/b", "**", "/**", "?", "a/**/b", "b/a.o", "\\a", "nowhere"}
	texts := []string{}
	for range n {
		var lines []string
		for range by.Intn(6) {
			if by.Intn(5) == 0 {
				lines = append(lines, []string{"", "#", "# skip a"}[by.Intn(3)])
			}
			lines = append(lines, words[by.Intn(3)]+patterns[by.Intn(len(patterns))])
		}
		texts = append(texts, strings.Join(lines, "\n"))
	}
	return texts
}
