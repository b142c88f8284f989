package script

import (
	"fmt"
	"math"
	"slices"
	"strings"
	"testing"

	"twine/api"
)

// prints: steps that have such a text.
func prints(t testing.TB, text string, l ...api.Step) {
	t.Helper()
	got, fault := printOf(t, l)
	want(t, fmt.Sprintf("Print of %v", l), fault, "fine")
	want(t, fmt.Sprintf("Print of %v", l), got, text)
}

// hasNone: a step that has no text, wherever it stands; its number is told.
func hasNone(t testing.TB, s api.Step) {
	t.Helper()
	for n := range 3 {
		l := append(slices.Repeat(ticks(1), n), s, tick(1), s)
		_, fault := printOf(t, l)
		want(t, fmt.Sprintf("Print of %v", l), fault, fmt.Sprint("205 at ", n))
	}
}

func TestP20_8Lines(t *testing.T) {
	var all string
	var steps []api.Step
	for _, x := range rightLines() {
		prints(t, x.text+"\n", x.step)
		prints(t, x.text+"\n"+x.text+"\n", x.step, x.step)
		all += x.text + "\n"
		steps = append(steps, x.step)
	}
	prints(t, all, steps...)
	prints(t, "")
	prints(t, "", []api.Step{}...)
}

// A quoted text has each byte in one form.
func TestP20_8Texts(t *testing.T) {
	var every []byte
	for b := range 256 {
		c := string([]byte{byte(b)})
		form := fmt.Sprintf(`\x%02x`, b)
		switch {
		case c == `"` || c == `\`:
			form = `\` + c
		case b >= 0x20 && b <= 0x7e:
			form = c
		}
		prints(t, `remove a "`+form+`"`+"\n", remove(c))
		prints(t, `begin "x`+form+`y"`+"\n", api.Step{Kind: api.StepBegin, Rules: "x" + c + "y"})
		prints(t, `write a "`+form+`" "`+form+form+`"`+"\n", edit(0, api.Edit{Kind: api.EditWrite, Path: c, Data: []byte(c + c)}))
		prints(t, `rename a "" "`+form+`"`+"\n", edit(0, api.Edit{Kind: api.EditRename, To: c}))
		every = append(every, byte(b))
	}
	l := []api.Step{edit(0, api.Edit{Kind: api.EditFile, Path: string(every), Data: every, Mode: 1})}
	text, _ := printOf(t, l)
	reads(t, text, l...)
	prints(t, `remove a "\xc3\xa9\xe6\x97\xa5"`+"\n", remove("é日"))
	prints(t, `remove a "\xef\xbf\xbd\xff"`+"\n", remove("\ufffd\xff"))
}

// A keep for each list that isn't empty.
func TestP20_8Keeps(t *testing.T) {
	lists := [][]int{nil, {}, {4}, {0, -5, 6}}
	for i := range 64 {
		line, s := "fall 1 2 3", fall([3]int{1, 2, 3})
		for v := range 3 {
			s.Keep[v] = lists[i>>(2*v)&3]
			line += []string{"", "", " keep V 4", " keep V 0 -5 6"}[i>>(2*v)&3]
			line = strings.ReplaceAll(line, "V", "abs"[v:v+1])
		}
		prints(t, line+"\n", s)
	}
}

// A list without anything is as none, also where the kind names none.
func TestP20_8EmptyLists(t *testing.T) {
	for _, x := range rightLines() {
		prints(t, x.text+"\n", emptied(x.step))
	}
}

func TestP20_9Kinds(t *testing.T) {
	for _, kind := range []int{0, 12, 13, -1, 99, math.MaxInt, math.MinInt} {
		hasNone(t, api.Step{Kind: kind})
		hasNone(t, edit(0, api.Edit{Kind: kind}))
		hasNone(t, api.Step{Kind: kind, Edit: api.Edit{Kind: api.EditSettle}})
	}
	hasNone(t, api.Step{})
	hasNone(t, api.Step{Kind: api.StepEdit})
}

// Each field that a kind doesn't name, set.
func TestP20_9Fields(t *testing.T) {
	values := map[string]any{
		"Volume": 1, "A": 1, "B": 1, "C": 1, "Reading": true, "Rules": "x", "Names.0": 1, "Names.1": 1, "Names.2": 1, "Keep": [3][]int{{0}, nil, nil},
		"Edit.Path": "x", "Edit.To": "x", "Edit.Data": []byte("x"), "Edit.Mode": 1,
	}
	for _, row := range plainTable() {
		for field, value := range values {
			s := api.Step{Kind: row.kind, Edit: api.Edit{Kind: row.edit}}
			set(&s, field, value)
			if slices.Contains(strings.Fields(row.fields), field) {
				_, fault := printOf(t, []api.Step{s})
				want(t, fmt.Sprint(row.line, ": ", field), fault, "fine")
				continue
			}
			hasNone(t, s)
			if n, ok := value.(int); ok {
				set(&s, field, -n)
				hasNone(t, s)
			}
		}
		for kind := -1; kind < 13; kind++ {
			if row.kind != api.StepEdit && kind != 0 {
				hasNone(t, api.Step{Kind: row.kind, Edit: api.Edit{Kind: kind}})
			}
		}
		for v := range 3 {
			var keep [3][]int
			keep[v] = []int{0}
			if row.kind != api.StepFall {
				hasNone(t, api.Step{Kind: row.kind, Edit: api.Edit{Kind: row.edit}, Keep: keep})
			}
		}
	}
}

// Each number at its bounds and beyond them.
func TestP20_9Numbers(t *testing.T) {
	for _, row := range plainTable() {
		places := strings.Fields(row.line)[1:]
		for i, field := range strings.Fields(row.fields) {
			low, high := -1<<40, 1<<40
			switch places[i] {
			case "V":
				low, high = 0, 2
			case "FEW":
				low, high = 0, 1000
			case "N":
			default:
				continue
			}
			for n, fits := range map[int]bool{low - 1: false, low: true, low + 1: true, high - 1: true, high: true, high + 1: false, math.MinInt: false, math.MaxInt: false, math.MinInt32 - 1: high > 1000, math.MaxInt32 + 1: high > 1000} {
				s := api.Step{Kind: row.kind, Edit: api.Edit{Kind: row.edit}}
				set(&s, field, n)
				if !fits {
					hasNone(t, s)
					continue
				}
				text, fault := printOf(t, []api.Step{s})
				want(t, fmt.Sprintf("%s of %d", row.line, n), fault, "fine")
				reads(t, text, s)
			}
		}
	}
	for n, fits := range map[int]bool{-1<<40 - 1: false, -1 << 40: true, 0: true, 1 << 40: true, 1<<40 + 1: false, math.MinInt: false, math.MaxInt: false} {
		for v := range 3 {
			for at := range 3 {
				s := fall([3]int{})
				s.Keep[v] = []int{1, 2, 3}
				s.Keep[v][at] = n
				if !fits {
					hasNone(t, s)
					continue
				}
				_, fault := printOf(t, []api.Step{s})
				want(t, fmt.Sprint("a keep of ", n), fault, "fine")
			}
		}
	}
}

// printed: what Print alone tells (the plain one is slow with many steps).
func printed(l []api.Step) (string, string) {
	text, err := Print(l)
	return text, place(err)
}

func TestP20_9Many(t *testing.T) {
	l := slices.Repeat(ticks(1), maxSteps)
	text, fault := printed(l)
	want(t, "MaxSteps steps", fault, "fine")
	want(t, "MaxSteps steps", text, times("tick 1", maxSteps))
	reads(t, text, l...)
	for _, more := range [][]api.Step{ticks(1), ticks(1, 1, 1), {{}}, {{Kind: 99}, tick(1)}, slices.Repeat(ticks(1), 70000)} {
		text, fault = printed(append(l[:maxSteps:maxSteps], more...))
		want(t, "more than MaxSteps steps", fault, fmt.Sprint("205 at ", maxSteps))
		want(t, "more than MaxSteps steps", text, "")
	}
	l[3999] = api.Step{}
	_, fault = printed(append(l, tick(1)))
	want(t, "a step of no kind ahead of that", fault, "205 at 3999")
}

// A text of MaxScript bytes, and of one more: the first step that makes it too long is told.
func TestP20_9Long(t *testing.T) {
	sized := func(n int) api.Step { return remove(strings.Repeat("x", n-len("remove a \"\"\n"))) }
	for _, ahead := range []int{0, 1, 2, 50} {
		l := slices.Repeat(ticks(1), ahead)
		left := maxScript - 7*ahead
		text, fault := printed(append(l[:ahead:ahead], sized(left)))
		want(t, "a text of MaxScript bytes", fault, "fine")
		want(t, "a text of MaxScript bytes", len(text), maxScript)
		reads(t, text, append(l[:ahead:ahead], sized(left))...)
		for _, more := range []int{1, 2, 100, 1000000} {
			text, fault = printed(append(l[:ahead:ahead], sized(left+more), tick(1)))
			want(t, "a longer one", fault, fmt.Sprint("205 at ", ahead))
			want(t, "a longer one", text, "")
		}
		_, fault = printed(append(l[:ahead:ahead], sized(left), api.Step{Kind: api.StepCancel}))
		want(t, "a step behind it", fault, fmt.Sprint("205 at ", ahead+1))
		_, fault = printed(append(l[:ahead:ahead], sized(left-7), api.Step{Kind: api.StepCancel}))
		want(t, "one that just fits", fault, "fine")
		_, fault = printed(append(l[:ahead:ahead], sized(left-6), api.Step{Kind: api.StepCancel}, tick(1)))
		want(t, "one that just doesn't", fault, fmt.Sprint("205 at ", ahead+1))
	}
	// It is the text as it is written that is measured.
	ends := strings.Repeat("x", 65536-12-3) + "\x00"
	_, fault := printed([]api.Step{remove(ends[1:])})
	want(t, "with an escape", fault, "fine")
	_, fault = printed([]api.Step{tick(1), remove(ends)})
	want(t, "with an escape, too long", fault, "205 at 1")
}

// Fields that are far too long, each of them; also in steps whose kind doesn't name them.
func TestP20_9FarTooLong(t *testing.T) {
	text := strings.Repeat("x", maxContent+1)
	numbers := make([]int, maxScript)
	for _, s := range []api.Step{
		edit(0, api.Edit{Kind: api.EditFile, Path: "f", Data: []byte(text)}),
		edit(0, api.Edit{Kind: api.EditWrite, Path: "f", Data: []byte(text[1:])}),
		edit(0, api.Edit{Kind: api.EditAppend, Path: "f", Data: []byte(text[:maxScript])}),
		edit(0, api.Edit{Kind: api.EditAppend, Path: "f", Data: make([]byte, maxScript/4)}),
		edit(0, api.Edit{Kind: api.EditMkdir, Path: text}),
		edit(0, api.Edit{Kind: api.EditMkdir, Path: "f", Data: []byte(text)}),
		edit(0, api.Edit{Kind: api.EditRename, Path: text, To: text}),
		edit(0, api.Edit{Kind: api.EditExchange, Path: "x", To: text}),
		edit(0, api.Edit{Kind: api.EditSettle, To: text}),
		{Kind: api.StepBegin, Rules: text},
		{Kind: api.StepCancel, Rules: text},
		fall([3]int{}, numbers),
		fall([3]int{}, nil, nil, numbers),
		fall([3]int{}, numbers[:maxScript/6], numbers[:maxScript/6], numbers[:maxScript/6]),
		{Kind: api.StepReport, Keep: [3][]int{nil, numbers, nil}},
	} {
		l := []api.Step{tick(1), tick(2), s, tick(3)}
		got, fault := printed(l)
		want(t, "a field that is far too long", fault, "205 at 2")
		want(t, "a field that is far too long", got, "")
	}
}

// With an error the text is empty, and the first step up to which there is none is told.
func TestP20_9First(t *testing.T) {
	bad := api.Step{Kind: api.StepDo, A: 1001}
	for n := range 6 {
		l := slices.Repeat([]api.Step{{Kind: api.StepReport}}, 6)
		l[n] = bad
		l[5] = bad
		text, fault := printOf(t, l)
		want(t, "the step", fault, fmt.Sprint("205 at ", n))
		want(t, "the text", text, "")
	}
}
