package path

import (
	"slices"
	"strings"
	"testing"

	"twine/api"
)

// textsOver tells all texts of at most so many of the alphabet's bytes.
func textsOver(alphabet string, most int) []string {
	all := []string{""}
	last := all
	for range most {
		var next []string
		for _, s := range last {
			for i := range len(alphabet) {
				next = append(next, s+alphabet[i:i+1])
			}
		}
		all = append(all, next...)
		last = next
	}
	return all
}

// cutText tells a text's pieces as P3.1 says them, from the library.
func cutText(s string) []string {
	if s == "" {
		return nil
	}
	return strings.Split(s, "/")
}

// isName holds a text against P3.2, byte by byte.
func isName(s string) bool {
	for i := range len(s) {
		if s[i] == '/' || s[i] == 0 {
			return false
		}
	}
	return len(s) >= 1 && len(s) <= 255 && s != "." && s != ".."
}

func TestP3_1Pieces(t *testing.T) {
	for text, want := range map[string][]string{
		"": nil, "a": {"a"}, "/": {"", ""}, "//": {"", "", ""}, "/a": {"", "a"}, "a/": {"a", ""}, "a//b": {"a", "", "b"}, "ab/c/d": {"ab", "c", "d"}, "\xc3/\xa9": {"\xc3", "\xa9"}, "é/\x00": {"é", "\x00"},
	} {
		if got := listPieces(text); !slices.Equal(got, want) {
			t.Errorf("pieces of %q: %q", text, got)
		}
	}
	for _, text := range textsOver("a/\x00\xff\xc3", 5) {
		if got := listPieces(text); !slices.Equal(got, cutText(text)) || len(got) != countPieces(text) {
			t.Fatalf("pieces of %q: %q, counted %d", text, got, countPieces(text))
		}
	}
}

func TestP3_1LeftEarly(t *testing.T) {
	count := 0
	for piece := range pieces("a/b/c") {
		if count++; piece == "b" {
			break
		}
	}
	if count != 2 {
		t.Errorf("%d pieces up to the second", count)
	}
}

// The number of pieces is seen from outside by the least most that isn't refused as too deep.
func TestP3_1SeenBySplit(t *testing.T) {
	for _, text := range textsOver("a/.", 6) {
		count := len(cutText(text))
		if _, e := Split(text, count); e == api.ErrPathDeep {
			t.Fatalf("%q: more than %d pieces", text, count)
		}
		if _, e := Split(text, count-1); count > 0 && e != api.ErrPathDeep {
			t.Fatalf("%q: no more than %d pieces", text, count-1)
		}
	}
}

func TestP3_2Names(t *testing.T) {
	for _, s := range []string{"a", "...", "a b", " ", "*", "\\", "é", "\xff", "\xc3", "\xed\xa0\x80", "\x01", ".a", "..a", "a.", "a..", "\n", strings.Repeat("n", 255), strings.Repeat("\xff", 255), strings.Repeat("é", 127) + "n"} {
		if e := Check(s); e != api.OK {
			t.Errorf("Check(%q): %d", s, e)
		}
	}
	for _, s := range []string{"", ".", "..", "/", "a/b", "/a", "a/", "\x00", "a\x00", "\x00a", "\xff\x00", "\xc3/", "é\x00", strings.Repeat("n", 256), strings.Repeat("é", 128), strings.Repeat("n", 1<<16)} {
		if e := Check(s); e != api.ErrPathName {
			t.Errorf("Check(%q): %d", s, e)
		}
	}
}

func TestP3_2EveryByte(t *testing.T) {
	for b := range 256 {
		for _, s := range []string{string([]byte{byte(b)}), string([]byte{'a', byte(b)}), string([]byte{byte(b), 'a'}), string([]byte{0xC3, byte(b)}), string([]byte{byte(b), 0xA9, 'a'}), strings.Repeat("n", 254) + string([]byte{byte(b)})} {
			if got := Check(s) == api.OK; got != isName(s) {
				t.Errorf("Check(%q): %v", s, got)
			}
		}
	}
}

func TestP3_3Split(t *testing.T) {
	long := strings.Repeat("n", 255)
	for i, c := range []struct {
		p    string
		most int
		want []string
		e    api.Errno
	}{
		{"", 0, nil, api.OK}, {"", 9, nil, api.OK}, {"", -1, nil, api.OK}, {"", -1 << 63, nil, api.OK},
		{"a", 1, []string{"a"}, api.OK}, {"a", 0, nil, api.ErrPathDeep}, {"a", -1, nil, api.ErrPathDeep}, {"a", -1 << 63, nil, api.ErrPathDeep}, {"a", 1<<63 - 1, []string{"a"}, api.OK},
		{"a/b", 2, []string{"a", "b"}, api.OK}, {"a/b", 3, []string{"a", "b"}, api.OK}, {"a/b", 1, nil, api.ErrPathDeep}, {"a/b", -2, nil, api.ErrPathDeep},
		{"a/a/a", 3, []string{"a", "a", "a"}, api.OK}, {"é/\xff/...", 3, []string{"é", "\xff", "..."}, api.OK},
		{long + "/" + long, 2, []string{long, long}, api.OK}, {"a/" + long + "n", 2, nil, api.ErrPathName}, {long + "n/a", 2, nil, api.ErrPathName},
		{"/", 2, nil, api.ErrPathName}, {"///", 9, nil, api.ErrPathName}, {"/a", 9, nil, api.ErrPathName}, {"a/", 9, nil, api.ErrPathName}, {"a//b", 9, nil, api.ErrPathName}, {"a//b", 3, nil, api.ErrPathName},
		{".", 1, nil, api.ErrPathName}, {"a/..", 2, nil, api.ErrPathName}, {"./a", 2, nil, api.ErrPathName}, {"a/./b", 3, nil, api.ErrPathName}, {"a/b\x00", 2, nil, api.ErrPathName}, {"\x00", 1, nil, api.ErrPathName},
		{"a//b", 2, nil, api.ErrPathDeep}, {"/", 1, nil, api.ErrPathDeep}, {"/", 0, nil, api.ErrPathDeep}, {"..", 0, nil, api.ErrPathDeep}, {"a/\x00", -1, nil, api.ErrPathDeep}, {long + "n/a", 1, nil, api.ErrPathDeep},
	} {
		got, e := Split(c.p, c.most)
		if e != c.e || !slices.Equal(got, c.want) || e != api.OK && got != nil {
			t.Errorf("row %d: Split(%q, %d): %q, %d", i, c.p, c.most, got, e)
		}
	}
}

func TestP3_3Depth(t *testing.T) {
	deep := strings.Repeat("d/", api.MaxDepth-1) + "d"
	if l, e := Split(deep, api.MaxDepth); e != api.OK || len(l) != api.MaxDepth {
		t.Errorf("%d names: %d", len(l), e)
	}
	if l, e := Split(deep+"/d", api.MaxDepth); e != api.ErrPathDeep || l != nil {
		t.Errorf("one more: %q, %d", l, e)
	}
	if l, e := Split(deep+"/d/d", api.MaxWay); e != api.OK || len(l) != api.MaxWay {
		t.Errorf("a volume's: %d names, %d", len(l), e)
	}
	if l, e := Split(strings.Repeat("/", 1<<22), 1<<63-1); e != api.ErrPathName || l != nil {
		t.Errorf("many empty pieces: %d names, %d", len(l), e)
	}
}

func TestP3_3AllShortTexts(t *testing.T) {
	for _, p := range textsOver("a/.\x00\xff", 5) {
		want := cutText(p)
		for most := -1; most <= 6; most++ {
			e := api.OK
			if len(want) > max(most, 0) {
				e = api.ErrPathDeep
			} else if slices.ContainsFunc(want, func(s string) bool { return !isName(s) }) {
				e = api.ErrPathName
			}
			got, f := Split(p, most)
			if f != e || e == api.OK && !slices.Equal(got, want) || e != api.OK && got != nil {
				t.Fatalf("Split(%q, %d): %q, %d", p, most, got, f)
			}
		}
	}
}

func TestP3_3NewMemory(t *testing.T) {
	first, _ := Split("a/b/c", 9)
	second, _ := Split("a/b/c", 9)
	first[1] = "x"
	_ = append(first[:0], "y", "y", "y", "y")
	if third, _ := Split("a/b/c", 9); Join(second) != "a/b/c" || Join(third) != "a/b/c" {
		t.Errorf("%q, %q", second, third)
	}
}

func TestP3_4Join(t *testing.T) {
	for i, c := range []struct {
		names []string
		want  string
	}{
		{nil, ""}, {[]string{}, ""}, {[]string{""}, ""}, {[]string{"a"}, "a"}, {[]string{"a", "b", "c"}, "a/b/c"}, {[]string{"", ""}, "/"}, {[]string{"", "", ""}, "//"}, {[]string{"a", "", "b/c"}, "a//b/c"}, {[]string{"", "a"}, "/a"}, {[]string{"a", ""}, "a/"}, {[]string{"/", "/"}, "///"}, {[]string{"..", ".", "\x00\xff"}, ".././\x00\xff"},
		{[]string{strings.Repeat("n", 300), "é"}, strings.Repeat("n", 300) + "/é"},
	} {
		if got := Join(c.names); got != c.want {
			t.Errorf("row %d: %q", i, got)
		}
	}
}

func TestP3_4ListUntouched(t *testing.T) {
	room := []string{"a", "b", "spare", "spare"}
	names := room[:2]
	got := Join(names)
	if names[0], names[1] = "x", "y"; got != "a/b" {
		t.Errorf("kept: %q", got)
	}
	if !slices.Equal(room, []string{"x", "y", "spare", "spare"}) {
		t.Errorf("changed: %q", room)
	}
}

func TestP3_6Under(t *testing.T) {
	for i, c := range []struct {
		p, root string
		want    bool
	}{
		{"a/b", "a", true}, {"a", "a", true}, {"a", "", true}, {"", "", true}, {"/", "", true}, {"a/b/c", "a/b", true}, {"a/b/c", "a", true},
		{"ab", "a", false}, {"a.b", "a", false}, {"a\x00", "a", false}, {"a", "ab", false}, {"a", "a/b", false}, {"a/bc", "a/b", false}, {"", "a", false}, {"", "/", false}, {"b/a", "a", false},
		{"a/b", "a/", false}, {"a/", "a/", true}, {"a/", "a", true}, {"a//b", "a/", true}, {"//", "/", true}, {"/x", "/", false}, {"//x", "/", true}, {"/x", "/x", true}, {"x", "/x", false},
	} {
		if got := Under(c.p, c.root); got != c.want {
			t.Errorf("row %d: Under(%q, %q): %v", i, c.p, c.root, got)
		}
	}
}

func TestP3_6UnderAllShortTexts(t *testing.T) {
	texts := textsOver("a/.\x00", 4)
	for _, p := range texts {
		for _, root := range texts {
			a, b := cutText(p), cutText(root)
			want := len(b) <= len(a) && slices.Equal(a[:len(b)], b)
			if Under(p, root) != want {
				t.Fatalf("Under(%q, %q): %v", p, root, !want)
			}
		}
	}
}

func TestP3_6Above(t *testing.T) {
	for p, want := range map[string][2]string{
		"": {"", ""}, "a": {"", "a"}, "a/b": {"a", "b"}, "a/b/c": {"a/b", "c"}, "/": {"", ""}, "//": {"/", ""}, "/a": {"", "a"}, "a/": {"a", ""}, "a//b": {"a/", "b"}, "..": {"", ".."}, "é/\xff\x00": {"é", "\xff\x00"},
	} {
		if up, last := Above(p); up != want[0] || last != want[1] {
			t.Errorf("Above(%q): %q, %q", p, up, last)
		}
	}
	for _, p := range textsOver("a/\xff", 6) {
		l := cutText(p)
		want, name := "", ""
		if len(l) > 0 {
			want, name = strings.Join(l[:len(l)-1], "/"), l[len(l)-1]
		}
		if up, last := Above(p); up != want || last != name {
			t.Fatalf("Above(%q): %q, %q", p, up, last)
		}
	}
}

func TestP3_10ThereAndBack(t *testing.T) {
	for _, p := range textsOver("a/.b\xff", 6) {
		names, e := Split(p, api.MaxDepth)
		if e == api.OK && Join(names) != p {
			t.Fatalf("%q: Join tells %q", p, Join(names))
		}
		if up, last := Above(p); len(cutText(p)) >= 2 && Join([]string{up, last}) != p {
			t.Fatalf("%q: Above tells %q, %q", p, up, last)
		}
	}
}

func TestP3_10NamesThereAndBack(t *testing.T) {
	some := []string{"a", "...", "\xff", "é", "a b", strings.Repeat("n", 255), "*"}
	for count := range 9 {
		for shift := range some {
			var names []string
			for i := range count {
				names = append(names, some[(i*i+shift)%len(some)])
			}
			for _, most := range []int{count, count + 1, api.MaxDepth} {
				if got, e := Split(Join(names), most); e != api.OK || !slices.Equal(got, names) {
					t.Errorf("%q: %q, %d", names, got, e)
				}
			}
		}
	}
}

func TestP3_Example1(t *testing.T) {
	for name, want := range map[string]api.Errno{"a": 0, "...": 0, "a b": 0, "": 30, ".": 30, "..": 30, "a/b": 30, strings.Repeat("x", 256): 30} {
		if e := Check(name); e != want {
			t.Errorf("Check(%q): %d", name, e)
		}
	}
	if l, e := Split("", 0); len(l) != 0 || e != 0 {
		t.Errorf("the root: %q, %d", l, e)
	}
	if _, e := Split("a/b", 1); e != 31 {
		t.Errorf("a/b, 1: %d", e)
	}
	for _, p := range []string{"a//b", "/a", "a/"} {
		if _, e := Split(p, 9); e != 30 {
			t.Errorf("%s, 9: %d", p, e)
		}
	}
	if _, e := Split("a//b", 2); e != 31 {
		t.Errorf("a//b, 2: %d", e)
	}
}
