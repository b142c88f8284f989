package script

import (
	"errors"
	"fmt"
	"reflect"
	"strings"
	"testing"

	"twine/api"
)

// This file: what the layer is for, by steps and texts by chance.

// What Print writes Parse reads as the steps; and Print of these is the same text.
func TestP20_11ThereAndBack(t *testing.T) {
	t.Parallel()
	for seed := range 1500 {
		u := authorOf(seed)
		l := u.steps(12, true)
		text, fault := printOf(t, l)
		want(t, "steps that have a text", fault, "fine")
		reads(t, text, l...)
		again, _ := Parse(text)
		back, err := Print(again)
		want(t, "the text of what was read", back, text)
		want(t, "the text of what was read", place(err), "fine")
	}
}

// Blanks, tabs, comments and lines without words change nothing; a repeat is its body, so often.
func TestP20_11Spread(t *testing.T) {
	t.Parallel()
	for seed := range 1500 {
		u := authorOf(seed)
		text, out := u.written(u.steps(12, true))
		l, fault := parseOf(t, text)
		want(t, short(text), fault, "fine")
		reads(t, out, l...)
		back, err := Print(l)
		want(t, short(text), place(err), "fine")
		want(t, short(text), back, out)
	}
}

// A text that is read, but whose steps' text would be too long.
func TestP20_11TooLong(t *testing.T) {
	text := "repeat 1000\nremove a \"" + strings.Repeat("x", 60) + "\"\nend"
	l, fault := parseOf(t, text)
	want(t, "a repeat", fault, "fine")
	line := len("remove a \"\"\n") + 60
	_, err := Print(l)
	want(t, "its text", place(err), fmt.Sprint("205 at ", maxScript/line))
	back, err := Print(l[:maxScript/line])
	want(t, "a first part's text", place(err), "fine")
	want(t, "a first part's text", len(back), maxScript/line*line)
	reads(t, back, l[:maxScript/line]...)
}

// Setups go over lines as they like.
func TestP20_11Setups(t *testing.T) {
	t.Parallel()
	for seed := range 600 {
		u := authorOf(seed)
		n := func(most int) int { return []int{0, 1, most, u.Intn(most + 1)}[u.Intn(4)] }
		s := api.Setup{Most: u.number()}
		for v := range 3 {
			s.Caps.Bytes[v], s.Caps.Names[v] = n(1<<40), n(maxNames)
		}
		b, c := s.Caps.Bytes, s.Caps.Names
		text := fmt.Sprint("bytes ", b[0], " ", b[1], " ", b[2], " names ", c[0], " ", c[1], " ", c[2], " most ", s.Most)
		setsUp(t, text, s)
		spread := u.of("", "\n", "# x\n")
		for _, w := range strings.Fields(text) {
			spread += w + u.of(" ", "\t", "\n", "#\n", " # \"\n\n\t")
		}
		setsUp(t, spread, s)
		setupOf(t, u.blemish(text))
		setupOf(t, u.blemish(u.blemish(spread)))
	}
}

// Scraps, and right texts with a blemish: each is read, or refused, as the plain reader does.
func TestP20_5Scraps(t *testing.T) {
	t.Parallel()
	refused := map[api.Errno]int{}
	for seed := range 12000 {
		u := authorOf(seed)
		text := u.scrap()
		if u.rarely(2) {
			text, _ = u.written(u.steps(6, u.rarely(2)))
			for range 1 + u.Intn(2) {
				text = u.blemish(text)
			}
		}
		setupOf(t, text)
		_, fault := parseOf(t, text)
		var e, at int
		if n, _ := fmt.Sscanf(fault, "%d at %d", &e, &at); n == 2 {
			refused[api.Errno(e)]++
		}
	}
	for _, e := range []api.Errno{api.ErrScriptWord, api.ErrScriptNumber, api.ErrScriptEnd} {
		if refused[e] < 200 {
			t.Errorf("error %d was told %d times alone", e, refused[e])
		}
	}
}

// faultAt: the line of a fault, and where the next line begins.
func faultAt(text string) (*api.Fault, int) {
	_, err := Parse(text)
	var f *api.Fault
	if !errors.As(err, &f) {
		return nil, 0
	}
	if i := strings.IndexByte(text[f.At:], '\n'); i >= 0 {
		return f, f.At + i + 1
	}
	return f, len(text) + 1
}

// What stands on lines behind the faulty one doesn't bear on the fault.
func TestP20_12Rest(t *testing.T) {
	t.Parallel()
	tried := 0
	for seed := range 4000 {
		u := authorOf(seed)
		text, _ := u.written(u.steps(6, true))
		text = u.blemish(text)
		f, next := faultAt(text)
		if f == nil || f.Err == api.ErrScriptEnd && f.At == len(text) || next > len(text) {
			continue
		}
		tried++
		for _, rest := range []string{"", "go", "end", "repeat 1", "\"", "tick 1\n", u.scrap(), strings.Repeat("\n", 300)} {
			g, _ := faultAt(text[:next] + rest)
			if g == nil || *g != *f {
				t.Fatalf("%s with the rest %q: got %v, want %v", short(text), rest, g, f)
			}
		}
		g, _ := faultAt(text[:next] + strings.Repeat("\n", maxScript))
		want(t, "a text that is too long", *g, api.Fault{Err: api.ErrScriptLong})
	}
	want(t, "were there enough?", tried > 500, true)
}

// Many steps and much content are told by their lines, too, whatever follows.
func TestP20_12RestOfBounds(t *testing.T) {
	many := times("cancel", maxSteps)
	much := "repeat 1000\n" + brought("write", 4194) + "end\n" + brought("write", 304)
	for _, text := range []string{many + "cancel\n", "repeat 1000\n" + times("cancel", 5) + "end\n", much + brought("file", 1), "repeat 1000\n" + brought("write", 4195) + "end\n"} {
		f, next := faultAt(text)
		want(t, "the faulty line is the last one", next, len(text))
		for _, rest := range []string{"cancel", "go", "end", "repeat 0", brought("write", 9)} {
			g, _ := faultAt(text + rest)
			want(t, rest, *g, *f)
		}
	}
}

// lively: steps of which a good many are done.
func (u author) lively(most int) []api.Step {
	var l []api.Step
	begin := []api.Step{{Kind: api.StepBegin, Rules: u.of("", "", "skip *.o", "prefer a **")}}
	for range 1 + u.Intn(most) {
		switch u.Intn(6) {
		case 0:
			l = append(l, begin...)
			if u.rarely(2) {
				l = append(l, api.Step{Kind: api.StepEnd}, api.Step{Kind: api.StepReport})
			}
		case 1:
			l = append(l, api.Step{Kind: api.StepDo, A: u.Intn(12)}, tick(u.Intn(2)))
		default:
			l = append(l, u.steps(2, u.rarely(12))...)
		}
	}
	return l
}

// setup: mostly without caps.
func (u author) setup() string {
	if u.rarely(3) {
		return fmt.Sprintf("bytes %d %d %d names %d %d %d most %d", u.Intn(900), u.Intn(900), u.Intn(900), u.Intn(9), u.Intn(9), u.Intn(9), u.Intn(12))
	}
	return noCaps
}

// Play answers as a world and a run do, told the same.
func TestP20_10Chance(t *testing.T) {
	t.Parallel()
	counted := map[string]int{}
	for seed := range 400 {
		u := authorOf(seed)
		text, _ := u.written(u.lively(25))
		setup := u.setup()
		told := playOf(t, setup, text)
		again, _ := Play(setup, text)
		want(t, "the same, once more", again, told)
		seen(told, counted)
	}
	if len(counted) < 30 {
		t.Errorf("few words were told: %v", counted)
	}
}

// A first part of the steps has a first part of the lines.
func TestP20_12FirstParts(t *testing.T) {
	t.Parallel()
	for seed := range 120 {
		u := authorOf(seed)
		l := u.lively(12)
		setup := u.setup()
		text, err := Print(l)
		want(t, "the text", place(err), "fine")
		told, _ := Play(setup, text)
		ahead := ""
		for n := range len(l) + 1 {
			part, _ := Print(l[:n])
			lines, err := Play(setup, part)
			want(t, "a first part", place(err), "fine")
			if !strings.HasPrefix(told, lines) || !strings.HasPrefix(lines, ahead) {
				t.Fatalf("%s has the lines %s, its first %d steps %s", text, told, n, lines)
			}
			ahead = lines
		}
		want(t, "all of the steps", ahead, told)
	}
}

// Two calls told the same answer the same, whatever was told in between.
func TestP20_12TheSame(t *testing.T) {
	t.Parallel()
	for seed := range 100 {
		u := authorOf(seed)
		text, _ := u.written(u.steps(9, true))
		l, _ := Parse(text)
		_, _ = Parse(u.scrap())
		_, _ = Print(u.steps(5, true))
		_, _ = Setup(u.scrap())
		again, _ := Parse(text)
		want(t, "the same steps", reflect.DeepEqual(l, again), true)
	}
}
