package path

import (
	"slices"
	"strings"
	"testing"

	"twine/api"
)

// isPattern holds a text against P3.7, piece by piece.
func isPattern(s string) bool {
	if len(s) < 1 || len(s) > 255 {
		return false
	}
	l := cutText(strings.TrimPrefix(s, "/"))
	stars := 0
	for _, piece := range l {
		for i := 0; i < len(piece); i++ {
			if piece[i] == '\\' {
				if i++; i == len(piece) {
					return false
				}
			} else if piece[i] == '*' {
				stars++
			}
		}
	}
	return len(l) >= 1 && !slices.Contains(l, "") && stars <= 8
}

// pieceMakes holds a name against P3.8 by trying all that a star may stand for.
func pieceMakes(piece, name string) bool {
	switch {
	case piece == "":
		return name == ""
	case piece[0] == '*':
		return pieceMakes(piece[1:], name) || name != "" && pieceMakes(piece, name[1:])
	case name == "":
		return false
	case piece[0] == '\\':
		return piece[1] == name[0] && pieceMakes(piece[2:], name[1:])
	case piece[0] == '?', piece[0] == name[0]:
		return pieceMakes(piece[1:], name[1:])
	}
	return false
}

func piecesMake(l, names []string) bool {
	switch {
	case len(l) == 0:
		return len(names) == 0
	case l[0] == "**":
		return piecesMake(l[1:], names) || len(names) > 0 && piecesMake(l, names[1:])
	}
	return len(names) > 0 && pieceMakes(l[0], names[0]) && piecesMake(l[1:], names[1:])
}

func matches(pattern, p string) bool {
	names := cutText(p)
	if p == "" {
		return false
	}
	if !strings.Contains(pattern, "/") {
		return pieceMakes(pattern, names[len(names)-1])
	}
	return piecesMake(cutText(strings.TrimPrefix(pattern, "/")), names)
}

type matchRow struct {
	pattern, p string
	want       bool
}

func holdRows(t *testing.T, rows []matchRow) {
	t.Helper()
	for i, c := range rows {
		if got, e := Match(c.pattern, c.p); got != c.want || e != api.OK {
			t.Errorf("row %d: Match(%.80q, %.80q): %v, %d", i, c.pattern, c.p, got, e)
		}
	}
}

func TestP3_7Patterns(t *testing.T) {
	long := strings.Repeat("a", 255)
	for _, s := range []string{"a", "/a", "a/b", "/a/b", "*", "?", "**", "/**", "***", "\\*", "\\\\", "\\a", "a\\\\/b", "\\é", "\\\xff", "\x00", ".", "..", "./..", long, "/" + long[1:], "é/\xff", "*/*/*/*/*/*/*/*", "**/**/**/**", "********", strings.Repeat("\\*", 127), "\\**\\**\\**\\**\\**\\**\\**\\**", strings.Repeat("?", 255), "a/" + strings.Repeat("b/", 126) + "b"} {
		if _, e := Match(s, "a"); e != api.OK {
			t.Errorf("%q is refused: %d", s, e)
		}
	}
	for _, s := range []string{"", "/", "//", "///", "//a", "a/", "/a/", "a//", "a//b", "/a//b", "\\", "a\\", "/\\", "a\\/b", "\\/", "\\/a", "a/\\", "a/b\\/c", "\\\\\\", "é\\", "\\é\\", "\xff\\", long + "a", "/" + long, strings.Repeat("a/", 128), "*********", "*/*/*/*/*/*/*/*/*", "**/**/**/**/*", "/*********", "\\\\*********", "*\\\\********", strings.Repeat("*", 255)} {
		if ok, e := Match(s, "a"); e != api.ErrPathPattern || ok {
			t.Errorf("%q is taken: %v, %d", s, ok, e)
		}
	}
}

func TestP3_7AllShortPatterns(t *testing.T) {
	for _, s := range textsOver("a/*\\\xff", 6) {
		want := api.ErrPathPattern
		if isPattern(s) {
			want = api.OK
		}
		if _, e := Match(s, "a"); e != want {
			t.Fatalf("%q: %d", s, e)
		}
	}
	for stars := range 12 {
		for _, s := range []string{strings.Repeat("*", stars) + "a", strings.Repeat("*?/", stars) + "a", strings.Repeat("\\**\\\\", stars) + "a", "/" + strings.Repeat("a*", stars) + "\\*a"} {
			want := api.ErrPathPattern
			if stars <= 8 {
				want = api.OK
			}
			if _, e := Match(s, "a"); e != want {
				t.Errorf("%q: %d", s, e)
			}
		}
	}
}

func TestP3_7SlashAtTheBeginning(t *testing.T) {
	holdRows(t, []matchRow{
		{"a", "a", true}, {"a", "d/a", true}, {"/a", "a", true}, {"/a", "d/a", false}, {"d/a", "d/a", true}, {"/d/a", "d/a", true}, {"d/a", "e/d/a", false}, {"/d/a", "e/d/a", false},
	})
}

func TestP3_8Piece(t *testing.T) {
	long := strings.Repeat("n", 255)
	holdRows(t, []matchRow{
		{"a", "a", true}, {"a", "b", false}, {"a", "ab", false}, {"ab", "a", false}, {"abc", "abc", true}, {"a", "A", false},
		{"*", "a", true}, {"*", "abc", true}, {"*a", "a", true}, {"*a", "ba", true}, {"*a", "ab", false}, {"a*", "a", true}, {"a*", "ab", true}, {"a*", "ba", false}, {"a*c", "ac", true}, {"a*c", "abbc", true}, {"a*c", "acb", false}, {"a*b*c", "axbxbxc", true}, {"a*b*c", "acb", false}, {"*ab", "aab", true}, {"*aab", "aaab", true}, {"*ab*ab", "abab", true}, {"*ab*ab", "ab", false}, {"*a*a*a", "aa", false}, {"*a*a*a", "baabaa", true}, {"a**b", "ab", true}, {"a**b", "axyb", true}, {"**a", "ba", true}, {"a**", "ab", true}, {"***", "ab", true}, {"*.*", "a.b", true}, {"*.*", "ab", false},
		{"?", "a", true}, {"?", "ab", false}, {"??", "ab", true}, {"??", "a", false}, {"a?c", "abc", true}, {"a?c", "ac", false}, {"?*", "a", true}, {"*?", "abc", true}, {"*??", "a", false}, {"?*?", "a", false}, {"?*?", "ab", true}, {"?", "é", false}, {"??", "é", true}, {"?", "\xff", true}, {"\xc3?", "é", true}, {"?\xa9", "é", true}, {"*\xa9", "é", true},
		{"\\*", "*", true}, {"\\*", "a", false}, {"\\*", "ab", false}, {"\\?", "?", true}, {"\\?", "a", false}, {"\\\\", "\\", true}, {"\\\\", "\\\\", false}, {"\\a", "a", true}, {"\\a", "\\a", false}, {"\\aa", "aa", true}, {"a\\*b", "a*b", true}, {"a\\*b", "axb", false}, {"\\**", "*x", true}, {"\\**", "x*", false}, {"*\\*", "x*", true}, {"*\\*", "*x", false}, {"*\\*", "x", false}, {"\\*\\*", "**", true}, {"\\*\\*", "a", false}, {"\\\\*", "\\x", true}, {"\\\\*", "x", false}, {"\\é", "é", true}, {"\\\xc3\xa9", "é", true},
		{".", "a", false}, {"..", "ab", false}, {"*", "...", true}, {"\x00", "a", false}, {"\xff", "\xff", true}, {"\xff", "\xfe", false},
		{long, long, true}, {long[1:] + "m", long, false}, {"*" + long[1:], long, true}, {strings.Repeat("?", 255), long, true}, {strings.Repeat("?", 254), long, false},
	})
}

func TestP3_8ManyNames(t *testing.T) {
	deep := strings.Repeat("d/", 63) + "d"
	holdRows(t, []matchRow{
		{"**", "a", true}, {"**", "a/b", true}, {"/**", "a", true}, {"/**", "a/b/c", true}, {"/**", deep, true},
		{"**/x", "x", true}, {"**/x", "d/x", true}, {"**/x", "d/e/x", true}, {"**/x", "x/d", false}, {"**/x", "dx", false}, {"/**/x", "x", true}, {"/**/x", "d/x", true},
		{"a/**", "a", true}, {"a/**", "a/b", true}, {"a/**", "a/b/c", true}, {"a/**", "b", false}, {"a/**", "b/a", false}, {"a/**", "ab", false},
		{"a/**/b", "a/b", true}, {"a/**/b", "a/c/b", true}, {"a/**/b", "a/c/d/b", true}, {"a/**/b", "a", false}, {"a/**/b", "a/b/c", false}, {"a/**/b", "a/b/b", true}, {"a/**/b", "b", false},
		{"**/**", "a", true}, {"**/**", "a/b/c", true}, {"**/a/**", "a", true}, {"**/a/**", "x/a/y", true}, {"**/a/**", "x/y", false}, {"**/a/**/b", "a/x/a/b", true}, {"**/a/**/b", "b/a", false}, {"**/a/b/**/c", "a/x/a/b/y/c", true}, {"**/a/b/**/c", "a/x/b/y/c", false}, {"a/**/**/b", "a/b", true}, {"a/**/*/b", "a/b", false}, {"a/**/*/b", "a/x/b", true}, {"**/*/**", "a", true}, {"**/*/*", "a", false}, {"**/*/*", "a/b", true},
		{"a/***", "a", false}, {"a/***", "a/b", true}, {"a/***", "a/b/c", false}, {"a/**b", "a/b", true}, {"a/**b", "a/xb", true}, {"a/**b", "a/x/b", false}, {"a/b**", "a/bx", true}, {"a/b**", "a/b/x", false}, {"a/*\\*", "a/x*", true}, {"a/*\\*", "a/x", false}, {"a/*\\*", "a", false}, {"a/\\*\\*", "a/**", true}, {"a/\\*\\*", "a/b/c", false}, {"a/?*", "a", false},
	})
}

func TestP3_8Anchored(t *testing.T) {
	holdRows(t, []matchRow{
		{"d/*", "d/x", true}, {"d/*", "d/x/y", false}, {"d/*", "d", false}, {"d/*", "e/d/x", false}, {"/d", "d", true}, {"/d", "d/x", false}, {"/d", "x/d", false}, {"/*", "d", true}, {"/*", "d/x", false}, {"*/x", "d/x", true}, {"*/x", "x", false}, {"*/x", "d/e/x", false}, {"?/?", "a/b", true}, {"?/?", "a/bc", false}, {"?/?", "abc", false}, {"a*b", "a/b", false}, {"a?b", "a/b", false}, {"/a?b", "a/b", false}, {"/a*b", "a/b", false}, {"\\*/\\?", "*/?", true}, {"\\*/\\?", "a/b", false}, {"a/.", "a/b", false},
		{"*.tmp", "x.tmp", true}, {"*.tmp", "d/x.tmp", true}, {"*.tmp", "x.tmp/d", false}, {"d", "d/x", false}, {"d", "x/d", true}, {"d*", "x/y/de", true}, {"**", "x/y", true},
	})
}

func TestP3_8Root(t *testing.T) {
	for _, s := range textsOver("a/*?\\", 5) {
		if ok, e := Match(s, ""); ok || (e == api.OK) != isPattern(s) || e != api.OK && e != api.ErrPathPattern {
			t.Fatalf("Match(%q, the root): %v, %d", s, ok, e)
		}
	}
}

func TestP3_8Errors(t *testing.T) {
	deep := strings.Repeat("a/", 64) + "a"
	for i, c := range []struct {
		pattern, p string
		e          api.Errno
	}{
		{"", "a", api.ErrPathPattern}, {"", "", api.ErrPathPattern}, {"a//b", "", api.ErrPathPattern}, {"", "a//b", api.ErrPathPattern}, {"*********", deep, api.ErrPathPattern},
		{"a", "/", api.ErrPathName}, {"a", "/a", api.ErrPathName}, {"a", "a/", api.ErrPathName}, {"a", "a//b", api.ErrPathName}, {"a", "../a", api.ErrPathName}, {"/a", ".", api.ErrPathName}, {"**", "a\x00", api.ErrPathName}, {"*", strings.Repeat("a", 256), api.ErrPathName}, {"a", "\x00/a", api.ErrPathName},
		{"a", deep, api.ErrPathDeep}, {"**", deep, api.ErrPathDeep}, {"a", deep + "//", api.ErrPathDeep}, {"a", strings.Repeat("/", 64), api.ErrPathDeep}, {"a", strings.Repeat("/", 63), api.ErrPathName},
	} {
		if ok, e := Match(c.pattern, c.p); ok || e != c.e {
			t.Errorf("row %d: Match(%q, %q): %v, %d", i, c.pattern, c.p, ok, e)
		}
	}
	if ok, e := Match("a", deep[2:]); !ok || e != api.OK {
		t.Errorf("64 names: %v, %d", ok, e)
	}
}

func TestP3_8AllShortPatterns(t *testing.T) {
	var patterns []string
	for _, s := range append(textsOver("a/*?\\", 5), textsOver("a/*", 8)...) {
		if isPattern(s) {
			patterns = append(patterns, s)
		}
	}
	var paths []string
	for _, s := range append(textsOver("ab/*", 4), textsOver("a/", 7)...) {
		if _, e := Split(s, 64); e == api.OK {
			paths = append(paths, s)
		}
	}
	for _, s := range patterns {
		for _, p := range paths {
			if ok, e := Match(s, p); ok != matches(s, p) || e != api.OK {
				t.Fatalf("Match(%q, %q): %v, %d", s, p, ok, e)
			}
		}
	}
}

// A walk through all that the stars may stand for would not end here in the time that a test has.
func TestP3_8LongTexts(t *testing.T) {
	name := strings.Repeat("a", 255)
	deep := strings.Repeat(name+"/", 63) + name
	stars := strings.Repeat("*a", 7) + strings.Repeat("a", 200) + "*b"
	for range 100 {
		holdRows(t, []matchRow{
			{stars, deep, false}, {stars[:len(stars)-1], deep, true}, {"**/*a/**/*b/**/c", deep, false}, {"**/a*/**/a*/**", deep, true},
		})
	}
}

func TestP3_11Names(t *testing.T) {
	some := []string{"a", "b", "a.b", "...", "\xff"}
	var paths []string
	for _, a := range some {
		paths = append(paths, a)
		for _, b := range some {
			paths = append(paths, a+"/"+b)
			for _, c := range some {
				paths = append(paths, a+"/"+b+"/"+c)
			}
		}
	}
	for _, names := range paths {
		for _, p := range paths {
			_, last := Above(p)
			rows := []matchRow{{"/" + names, p, names == p}, {"**/" + names, p, names == p || strings.HasSuffix(p, "/"+names)}}
			if strings.Contains(names, "/") {
				rows = append(rows, matchRow{names, p, names == p})
			} else {
				rows = append(rows, matchRow{names, p, names == last})
			}
			holdRows(t, rows)
		}
	}
}

func TestP3_Example3(t *testing.T) {
	holdRows(t, []matchRow{
		{"*.tmp", "x.tmp", true}, {"*.tmp", "d/x.tmp", true}, {"/*.tmp", "x.tmp", true}, {"/*.tmp", "d/x.tmp", false}, {"d/*", "d/x", true}, {"d/*", "d/x/y", false}, {"d/**", "d", true}, {"d/**", "d/x", true}, {"d/**", "d/x/y", true}, {"**/x", "x", true}, {"**/x", "d/x", true}, {"\\*", "*", true}, {"\\*", "a", false},
	})
	for _, s := range []string{"a//b", "/", "a\\", "*********"} {
		if ok, e := Match(s, "a"); ok || e != 32 {
			t.Errorf("%q: %v, %d", s, ok, e)
		}
	}
}
