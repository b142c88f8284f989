package rules

import (
	"fmt"
	"math/rand"
	"strings"
	"testing"

	"twine/api"
)

const many = 64 // MaxLines

// lineOf: a line, so often, each with a line feed behind it.
func lineOf(line string, n int) string { return strings.Repeat(line+"\n", n) }

// filled: a text with a comment behind it, that many bytes in all.
func filled(text string, size int) string {
	return text + "#" + strings.Repeat("x", size-len(text)-1)
}

func TestP11_1PassedOver(t *testing.T) {
	for _, text := range []string{"", "\n", "\n\n\n", "#", "#\n", "##", "# skip x", "#skip x\n#prefer c x\n", "\n#\n\n# \n", "#\t", "#\r\n#\r", "#\x00\xFF\n", "\n# \xC3"} {
		r := parsed(t, text)
		want(t, "rules", len(r.List()), 0)
		want(t, "Text", r.Text(), "")
		want(t, "Skip", r.Skip("x"), false)
		want(t, "Prefer", r.Prefer("x"), 0)
	}
}

func TestP11_1NoRule(t *testing.T) {
	for _, line := range []string{
		" ", "\t", "\r", "\x00", "x", "*.o", "\xFF", "\xEF\xBB\xBFskip x",
		" #", "\t#", " skip x", "\tskip x", "  prefer a x", "\\skip x",
		"skip", "ski", "s", "skipx", "skip\tx", "skip\x00x", "Skip x", "SKIP x", "skips x", "skip: x", "skip/x",
		"prefer", "prefer ", "prefer a", "prefer b", "prefer ax", "prefer a\tx", "prefer  a x", "prefer\ta x", "prefer c x", "prefer A x", "prefer B x", "prefer x", "prefer ab x", "prefer  ", "prefera x", "Prefer a x",
		"prefer a", "a prefer x", "let x",
	} {
		refused(t, line, 1, api.ErrRulesWord)
		refused(t, line+"\n", 1, api.ErrRulesWord)
		refused(t, "skip x\n\n#\n"+line+"\nskip x", 4, api.ErrRulesWord)
	}
}

// A line ends at a line feed, and nowhere else; all that stands behind the word and its blank is the pattern.
func TestP11_1Pattern(t *testing.T) {
	for _, pattern := range []string{
		"x", " ", "  ", " x", "x ", " x ", "a b", "#", "#x", "x#y", "x # y", "\t", "x\t", "\r", "x\r", "\x0B", "x\x0Cy", "\x00", "\xFF", "\xC3", "é", "日本", " ", "\u0085", "\u2028",
		"*", "**", "?", "*.o", "\\*", "\\\\", "\\ ", "\\#", "/x", "a/b", "**/x", "x/**", ".", "..", "skip x", "skip ", "prefer a x", "a x", "********", strings.Repeat("x", 255), "/" + strings.Repeat("x", 254),
	} {
		for what, word := range map[int]string{api.RuleSkip: "skip ", api.RulePreferA: "prefer a ", api.RulePreferB: "prefer b "} {
			rule := api.Rule{What: what, Pattern: pattern}
			for _, text := range []string{word + pattern, word + pattern + "\n", "\n" + word + pattern + "\n\n"} {
				r := parsed(t, text)
				wantList(t, fmt.Sprintf("%q", text), r.List(), plain{rule})
				want(t, fmt.Sprintf("%q: Text", text), r.Text(), word+pattern)
			}
		}
	}
}

// The pattern is what stands there: no blank of it is taken away.
func TestP11_1BlanksCount(t *testing.T) {
	r := parsed(t, "skip  x\nskip y \nskip z\r\nskip  \nprefer a  v")
	for p, let := range map[string]bool{" x": true, "x": false, "y ": true, "y": false, "z\r": true, "z": false, " ": true, "  ": false} {
		want(t, fmt.Sprintf("Skip of %q", p), r.Skip(p), let)
	}
	want(t, "Prefer", r.Prefer(" v"), api.SideA)
	want(t, "Prefer", r.Prefer("v"), 0)
}

// No pattern has a line feed, but names may have one, and signs match it.
func TestP11_1LineFeedInAName(t *testing.T) {
	r := parsed(t, "skip x?y\nprefer b z*")
	want(t, "?", r.Skip("x\ny"), true)
	want(t, "*", r.Prefer("z\n\n"), api.SideB)
	refused(t, "skip x\ny", 2, api.ErrRulesWord)
}

func TestP11_2Long(t *testing.T) {
	for _, text := range []string{"", "skip x\n", "prefer a x\n\nprefer b y\n"} {
		reads(t, filled(text, 3999), fewPaths())
		reads(t, filled(text, 4000), fewPaths())
		parsed(t, filled(text, 4000))
		refused(t, filled(text, 4001), 0, api.ErrRulesLong)
		refused(t, filled(text, 8000), 0, api.ErrRulesLong)
	}
	parsed(t, strings.Repeat("\n", 4000))
	refused(t, strings.Repeat("\n", 4001), 0, api.ErrRulesLong)
	refused(t, strings.Repeat("x", 1<<20), 0, api.ErrRulesLong)
	want(t, "MaxRules", api.MaxRules, 4000)
}

// One byte too many is told ahead of all that is wrong in the text.
func TestP11_2LongIsToldFirst(t *testing.T) {
	for text, e := range map[string]api.Errno{
		"skop\n":                       api.ErrRulesWord,
		"skip \n":                      api.ErrRulesPattern,
		"skip a//b\nskop\n":            api.ErrRulesPattern,
		strings.Repeat("skip x\n", 65): api.ErrRulesMany,
		"\n":                           api.OK,
		strings.Repeat("skip x\n", 64) + "skip\n": api.ErrRulesWord,
	} {
		r, line, got := Parse(filled(text, 4000))
		if got != e || (r != nil) != (e == api.OK) || (line == 0) != (e == api.OK) {
			t.Errorf("4000 bytes: %d, %d, want %d", line, got, e)
		}
		refused(t, filled(text, 4001), 0, api.ErrRulesLong)
	}
	refused(t, strings.Repeat("x", 4000), 1, api.ErrRulesWord)
	refused(t, "skip "+strings.Repeat("x", 3995), 1, api.ErrRulesPattern)
	refused(t, "skip "+strings.Repeat("x", 3996), 0, api.ErrRulesLong)
}

func TestP11_2Many(t *testing.T) {
	want(t, "MaxLines", api.MaxLines, many)
	for _, line := range []string{"skip x", "prefer a x", "prefer b x", "\nskip x", "#\nskip x", "skip x\n#", "\n\n# x\nprefer b y\n"} {
		one := strings.Count(line, "\n") + 1
		own := strings.Count(line[:strings.IndexAny(line, "sp")], "\n") + 1 // which of these lines is the rule
		for n := range many {
			want(t, "rules", len(parsed(t, lineOf(line, n+1)).List()), n+1)
		}
		reads(t, lineOf(line, many), fewPaths())
		refused(t, lineOf(line, many+1), many*one+own, api.ErrRulesMany)
		refused(t, strings.TrimSuffix(lineOf(line, many+1), "\n"), many*one+own, api.ErrRulesMany)
		refused(t, lineOf(line, many+20), many*one+own, api.ErrRulesMany)
		want(t, "rules, and lines behind them", len(parsed(t, lineOf(line, many)+"\n#\n# skip x\n\n").List()), many)
	}
}

// All kinds count together.
func TestP11_2ManyOfAllKinds(t *testing.T) {
	text := ""
	for i := range many {
		text += []string{"skip x", "prefer a x", "prefer b x"}[i%3] + "\n"
	}
	reads(t, text, fewPaths())
	for _, line := range []string{"skip y", "prefer a y", "prefer b y"} {
		refused(t, text+line, 65, api.ErrRulesMany)
		refused(t, text+"\n#\n"+line, 67, api.ErrRulesMany)
	}
}

// Behind MaxLines rules a line that is none is told as such; of one that is, ahead of its pattern that it is too many.
func TestP11_2WhichErrorFirst(t *testing.T) {
	full := lineOf("skip x", many)
	refused(t, full+"skop", 65, api.ErrRulesWord)
	refused(t, full+"skip", 65, api.ErrRulesWord)
	refused(t, full+"\n skip x", 66, api.ErrRulesWord)
	refused(t, full+"skip ", 65, api.ErrRulesMany)
	refused(t, full+"skip a//b", 65, api.ErrRulesMany)
	refused(t, full+"#\nprefer a ", 66, api.ErrRulesMany)
	refused(t, full+"skop\nskip x", 65, api.ErrRulesWord)
	refused(t, full+"skip x\nskop", 65, api.ErrRulesMany)
	less := lineOf("skip x", many-1)
	refused(t, less+"skip ", 64, api.ErrRulesPattern)
	refused(t, less+"skip \nskip x\nskop", 64, api.ErrRulesPattern)
	refused(t, less+"skop", 64, api.ErrRulesWord)
	refused(t, less+"skip x\nskip ", 65, api.ErrRulesMany)
}

func TestP11_2Pattern(t *testing.T) {
	for _, pattern := range []string{"", "/", "//", "a//b", "a/", "//a", "\\", "a\\", "a\\/b", "/\\", "*********", "*/*/*/*/*/*/*/*/*", strings.Repeat("x", 256), "/" + strings.Repeat("x", 255)} {
		for _, word := range []string{"skip ", "prefer a ", "prefer b "} {
			refused(t, word+pattern, 1, api.ErrRulesPattern)
			refused(t, "#\n"+word+pattern+"\nskop\n", 2, api.ErrRulesPattern)
		}
	}
}

// The first wrong line is told, whatever stands behind it.
func TestP11_2FirstWrongLine(t *testing.T) {
	lines := []string{"skop", "skip ", "skip x", "", "#"}
	errs := []api.Errno{api.ErrRulesWord, api.ErrRulesPattern}
	for i := range lines {
		for j := range lines {
			for k := range lines {
				text := lines[i] + "\n" + lines[j] + "\n" + lines[k]
				wrong := false
				for at, n := range []int{i, j, k} {
					if n < 2 {
						refused(t, text, at+1, errs[n])
						wrong = true
						break
					}
				}
				if !wrong {
					reads(t, text, fewPaths())
				}
			}
		}
	}
	for n := range 300 {
		refused(t, strings.Repeat("\n", n)+"skop\n", n+1, api.ErrRulesWord)
		refused(t, lineOf("#", n)+"skip /\nskop", n+1, api.ErrRulesPattern)
	}
	refused(t, strings.Repeat("\n", 3996)+"skop", 3997, api.ErrRulesWord)
}

func TestP11_2None(t *testing.T) {
	alike(t, "None", None(), nil, fewPaths())
	alike(t, "the empty text", parsed(t, ""), nil, fewPaths())
	alike(t, "None's mirror", None().Mirror(), nil, fewPaths())
}

func TestP11_2NoUTF8(t *testing.T) {
	r := parsed(t, "skip \xFF*\nprefer b \xC3\n#\xFE")
	wantList(t, "List", r.List(), plain{{What: 1, Pattern: "\xFF*"}, {What: 3, Pattern: "\xC3"}})
	want(t, "Text", r.Text(), "skip \xFF*\nprefer b \xC3")
	want(t, "Skip", r.Skip("a/\xFF\xFE"), true)
	want(t, "Skip of another one", r.Skip("a/\uFFFD"), false)
	want(t, "Prefer", r.Prefer("\xC3"), api.SideB)
	refused(t, "\xFFskip x", 1, api.ErrRulesWord)
	refused(t, "#\xFF\nskip\xA0x", 2, api.ErrRulesWord)
}

// All texts of a few of these parts, one behind the other, as the plain reading has them.
func TestP11_2ShortTexts(t *testing.T) {
	parts := []string{"skip ", "prefer a ", "prefer b ", "skip", "prefer ", "#", " ", "\n", "a", "/", "*", "\\"}
	texts := []string{""}
	for range 4 {
		var next []string
		for _, text := range texts {
			for _, part := range parts {
				next = append(next, text+part)
			}
		}
		for _, text := range next {
			reads(t, text, []string{"", "a", "a/a", "#", "//"})
		}
		texts = next
	}
}

// Long texts by chance, with right and wrong lines in them.
func TestP11_2TextsByChance(t *testing.T) {
	by := rand.New(rand.NewSource(11))
	right := []string{"skip a", "prefer a b", "prefer b a/**", "", "#", "# x", "skip *.o", "prefer a  ", "skip \xFF"}
	wrong := []string{"skip", " ", "skip /", "prefer a ", "prefer c x", "\xFF"}
	for range 4000 {
		lines := []string{}
		for range by.Intn(130) {
			lines = append(lines, right[by.Intn(len(right))])
		}
		for range by.Intn(3) {
			lines = append(lines, wrong[by.Intn(len(wrong))])
			at := by.Intn(len(lines))
			lines[at], lines[len(lines)-1] = lines[len(lines)-1], lines[at]
		}
		reads(t, strings.Join(lines, "\n"), []string{"a/b", "x.o"})
	}
}

func TestP11_3ListAndText(t *testing.T) {
	for _, c := range []struct {
		text, told string
		list       plain
	}{
		{"", "", nil},
		{"skip x", "skip x", plain{{What: 1, Pattern: "x"}}},
		{"skip x\n", "skip x", plain{{What: 1, Pattern: "x"}}},
		{"\n\nskip x\n\n\n", "skip x", plain{{What: 1, Pattern: "x"}}},
		{"prefer b x\n#\nprefer a y\nskip z\n", "prefer b x\nprefer a y\nskip z", plain{{What: 3, Pattern: "x"}, {What: 2, Pattern: "y"}, {What: 1, Pattern: "z"}}},
		{"skip x\nskip x\nprefer a x\nskip x", "skip x\nskip x\nprefer a x\nskip x", plain{{What: 1, Pattern: "x"}, {What: 1, Pattern: "x"}, {What: 2, Pattern: "x"}, {What: 1, Pattern: "x"}}},
	} {
		r := parsed(t, c.text)
		wantList(t, c.text, r.List(), c.list)
		want(t, c.text, r.Text(), c.told)
	}
	want(t, "RuleSkip", api.RuleSkip, 1)
	want(t, "RulePreferA", api.RulePreferA, 2)
	want(t, "RulePreferB", api.RulePreferB, 3)
}

func TestP11_4Mirror(t *testing.T) {
	r := parsed(t, "prefer a x\nskip y\nprefer b z\nprefer a z")
	m := r.Mirror()
	wantList(t, "List", m.List(), plain{{What: 3, Pattern: "x"}, {What: 1, Pattern: "y"}, {What: 2, Pattern: "z"}, {What: 3, Pattern: "z"}})
	want(t, "Text", m.Text(), "prefer b x\nskip y\nprefer a z\nprefer b z")
	want(t, "Prefer", m.Prefer("x"), api.SideB)
	want(t, "Prefer", m.Prefer("z"), api.SideB)
	want(t, "Skip", m.Skip("y"), true)
	want(t, "the rules' own Text", r.Text(), "prefer a x\nskip y\nprefer b z\nprefer a z")
	want(t, "the rules' own Prefer", r.Prefer("x"), api.SideA)
}
