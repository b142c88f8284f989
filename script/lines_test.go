package script

import (
	"fmt"
	"strings"
	"testing"

	"twine/api"
)

// This file: each line of the table.

// written: a line of the table, as it may be written, and its step.
type written struct {
	text string
	step api.Step
}

func rightLines() []written {
	step := func(kind int) api.Step { return api.Step{Kind: kind} }
	rig := func(v, a, b, c int, reading bool) api.Step {
		return api.Step{Kind: api.StepRig, Volume: v, A: a, B: b, C: c, Reading: reading}
	}
	return []written{
		{`mkdir a "d" 7`, edit(0, api.Edit{Kind: api.EditMkdir, Path: "d", Mode: 7})},
		{`mkdir s "" -3`, edit(2, api.Edit{Kind: api.EditMkdir, Mode: -3})},
		{`file b "d/f" "xyz" 6`, edit(1, api.Edit{Kind: api.EditFile, Path: "d/f", Data: []byte("xyz"), Mode: 6})},
		{`file a "" "" 0`, edit(0, api.Edit{Kind: api.EditFile})},
		{`link s "l" "to"`, edit(2, api.Edit{Kind: api.EditLink, Path: "l", To: "to"})},
		{`link a "" ""`, edit(0, api.Edit{Kind: api.EditLink})},
		{`write a "f" "pq"`, edit(0, api.Edit{Kind: api.EditWrite, Path: "f", Data: []byte("pq")})},
		{`append b "f" "r"`, edit(1, api.Edit{Kind: api.EditAppend, Path: "f", Data: []byte("r")})},
		{`chmod a "f" 4`, edit(0, api.Edit{Kind: api.EditChmod, Path: "f", Mode: 4})},
		{`rename b "x" "y"`, edit(1, api.Edit{Kind: api.EditRename, Path: "x", To: "y"})},
		{`exchange a "x" "y"`, edit(0, api.Edit{Kind: api.EditExchange, Path: "x", To: "y"})},
		{`remove b "x"`, edit(1, api.Edit{Kind: api.EditRemove, Path: "x"})},
		{`sync a "x"`, edit(0, api.Edit{Kind: api.EditSync, Path: "x"})},
		{`settle b`, edit(1, api.Edit{Kind: api.EditSettle})},
		{`settle s`, edit(2, api.Edit{Kind: api.EditSettle})},
		{`begin ""`, step(api.StepBegin)},
		{`begin "skip x\x0aprefer a y"`, api.Step{Kind: api.StepBegin, Rules: "skip x\nprefer a y"}},
		{`do 0`, step(api.StepDo)},
		{`do 1000`, api.Step{Kind: api.StepDo, A: 1000}},
		{`finish`, step(api.StepEnd)},
		{`tick 0`, step(api.StepTick)},
		{`tick 1000`, tick(1000)},
		{`fall 1 -2 3`, api.Step{Kind: api.StepFall, Names: [3]int{1, -2, 3}}},
		{`fall 0 0 0 keep a -4 5 keep b 6 keep s 7 8 9`, api.Step{Kind: api.StepFall, Keep: [3][]int{{-4, 5}, {6}, {7, 8, 9}}}},
		{`rig a 1 2 3`, rig(0, 1, 2, 3, false)},
		{`rig s -1 0 -3 reading`, rig(2, -1, 0, -3, true)},
		{`cancel`, step(api.StepCancel)},
		{`forget`, step(api.StepForget)},
		{`report`, step(api.StepReport)},
		{`show a`, step(api.StepShow)},
		{`show b`, api.Step{Kind: api.StepShow, Volume: 1}},
		{`show s`, api.Step{Kind: api.StepShow, Volume: 2}},
	}
}

func TestP20_5Table(t *testing.T) {
	var all []string
	var steps []api.Step
	for _, x := range rightLines() {
		reads(t, x.text, x.step)
		reads(t, x.text+"\n", x.step)
		reads(t, "\t"+strings.ReplaceAll(x.text, `" "`, `""`)+" # x", x.step)
		all, steps = append(all, x.text), append(steps, x.step)
	}
	reads(t, strings.Join(all, "\n"), steps...)
}

// Each line of the table has been written above.
func TestP20_5AllLines(t *testing.T) {
	seen := map[string]bool{}
	for _, x := range rightLines() {
		seen[strings.Fields(x.text)[0]] = true
	}
	for _, row := range plainTable() {
		want(t, row.line, seen[strings.Fields(row.line)[0]], true)
	}
}

// spots: a line's pieces, each with its place.
func spots(line string) []plainItem { return plainItems(line, 0) }

// Too short at each place: the line's end is told, if something is wanted there.
func TestP20_5Short(t *testing.T) {
	for _, x := range rightLines() {
		for i, p := range spots(x.text) {
			text := x.text[:p.at]
			wanted := fmt.Sprint("204 at ", len(text))
			switch word, _, _ := strings.Cut(x.text, " "); {
			case i == 0:
				wanted = "fine"
			case word == "rig" && i > 4:
				wanted = "fine"
			case word == "fall" && i > 3 && !strings.HasSuffix(text, "keep "):
				wanted = "fine"
			}
			_, fault := parseOf(t, text)
			want(t, short(text), fault, wanted)
			_, fault = parseOf(t, text+"\n\n")
			want(t, short(text), fault, wanted)
			_, fault = parseOf(t, text+"# x")
			want(t, short(text), fault, strings.Replace(wanted, fmt.Sprint(" at ", len(text)), fmt.Sprint(" at ", len(text)+3), 1))
		}
	}
}

// Another thing at each place is told there, by the number of what is wanted.
func TestP20_5Wrong(t *testing.T) {
	for _, x := range rightLines() {
		for i, p := range spots(x.text) {
			isNumber := strings.Contains("-0123456789", p.text[:1])
			others := []string{"x", "?", "c", "A", "S", "reading", "\r", "é", "ab"}
			switch {
			case isNumber:
				others = append(others, `"1"`, `""`, "a", "mkdir", "-0", "01", "1099511627777", "1x")
			case p.text[0] == '"':
				others = append(others, "7", "a", `\"`, `x\"`)
			default:
				others = append(others, "7", `""`, `"`+p.text+`"`, p.text+p.text, strings.ToUpper(p.text), p.text[:len(p.text)-1]+"?")
			}
			for _, other := range others {
				orNumber := p.text == "keep" && i > 4 // one of the keep ahead of it might stand there
				if other == p.text || orNumber && other == "7" {
					continue
				}
				wanted := fmt.Sprint("200 at ", p.at)
				if isNumber || orNumber {
					wanted = fmt.Sprint("201 at ", p.at)
				}
				text := x.text[:p.at] + other + x.text[p.at+len(p.text):]
				refuses(t, text, wanted)
				refuses(t, "tick 1\n"+text+"\ngo", strings.Replace(wanted, fmt.Sprint("at ", p.at), fmt.Sprint("at ", p.at+7), 1))
			}
		}
	}
}

// Something behind a line that is right.
func TestP20_5Behind(t *testing.T) {
	for _, x := range rightLines() {
		word, _, _ := strings.Cut(x.text, " ")
		for _, rest := range []string{"x", "1", `"x"`, "a", "reading", "keep", "-1099511627777", "\r", "é", `"`, "end"} {
			number := "200 at "
			isFall := word == "fall" && strings.Contains(x.text, "keep")
			if isFall && rest[0] != '"' && rest != "keep" || isFall && rest == `"x"` {
				number = "201 at "
			}
			switch {
			case rest == "keep" && word == "fall", rest == "1" && isFall, rest == "reading" && x.text == "rig a 1 2 3":
				continue
			}
			refuses(t, x.text+" "+rest, fmt.Sprint(number, len(x.text)+1))
			refuses(t, x.text+" "+rest+" y\ngo", fmt.Sprint(number, len(x.text)+1))
		}
	}
}

func TestP20_5Bounds(t *testing.T) {
	for _, word := range []string{"do", "tick"} {
		at := fmt.Sprint("201 at ", len(word)+1)
		for _, n := range []string{"0", "1", "999", "1000"} {
			_, fault := parseOf(t, word+" "+n)
			want(t, word+" "+n, fault, "fine")
		}
		for _, n := range []string{"-1", "1001", "1002", "10000", "-1000", "1099511627776", "1099511627777"} {
			refuses(t, word+" "+n, at)
		}
	}
}

func TestP20_5Volumes(t *testing.T) {
	for _, row := range plainTable() {
		places := strings.Fields(row.line)
		if len(places) < 2 || places[1] != "V" {
			continue
		}
		rest := strings.NewReplacer("V", "", "TEXT", `"x"`, "N", "1", "READING", "").Replace(strings.Join(places[1:], " "))
		for v, word := range []string{"a", "b", "s"} {
			l, fault := parseOf(t, places[0]+" "+word+rest)
			want(t, row.line, fault, "fine")
			want(t, row.line, l[0].Volume, v)
		}
		for _, word := range []string{"c", "A", "B", "S", "0", "1", "2", "aa", "ab", "abs", `"a"`, "-", "?", "a,"} {
			refuses(t, places[0]+" "+word+rest, fmt.Sprint("200 at ", len(places[0])+1))
		}
	}
}

// Words that are nearly those of the table.
func TestP20_5Words(t *testing.T) {
	for _, row := range plainTable() {
		word, rest, _ := strings.Cut(row.line, " ")
		rest = " " + strings.NewReplacer("V", "a", "TEXT", `"x"`, "FEW", "1", "N", "1", "KEEPS", "", "READING", "").Replace(rest)
		_, fault := parseOf(t, word+rest)
		want(t, word+rest, fault, "fine")
		for _, other := range []string{word + "s", word[:len(word)-1], word[1:], strings.ToUpper(word), strings.ToUpper(word[:1]) + word[1:], "-" + word, word + ":", word + "\r", "\xef\xbb\xbf" + word, `"` + word + `"`, word + word} {
			if _, ok := rowOf(other); !ok && other != "end" {
				refuses(t, other+rest, "200 at 0")
			}
		}
	}
}

func fall(names [3]int, keep ...[]int) api.Step {
	s := api.Step{Kind: api.StepFall, Names: names}
	copy(s.Keep[:], keep)
	return s
}

func TestP20_5Keeps(t *testing.T) {
	lists := [][]int{nil, {}, {4}, {0, -5, 6}}
	texts := []string{"", "keep V", "keep V 4", "keep V 0 -5 6"}
	for i := range 64 {
		line, s := "fall 1 2 3", fall([3]int{1, 2, 3})
		for v := range 3 {
			n := i >> (2 * v) & 3
			s.Keep[v] = lists[n]
			line += " " + strings.ReplaceAll(texts[n], "V", "abs"[v:v+1])
		}
		reads(t, line, s)
		reads(t, line+"#", s)
	}
	reads(t, "fall 1 2 3", fall([3]int{1, 2, 3}))
	reads(t, "fall 1 2 3 keep a", fall([3]int{1, 2, 3}))
	reads(t, "fall 1 2 3 keep a keep b keep s", fall([3]int{1, 2, 3}))
	reads(t, "fall 1 2 3 keep s 1", fall([3]int{1, 2, 3}, nil, nil, []int{1}))
}

func TestP20_5KeepsWrong(t *testing.T) {
	for line, fault := range map[string]string{
		"fall 0 0 0 keep":                        "204 at 15",
		"fall 0 0 0 keep ":                       "204 at 16",
		"fall 0 0 0 keep x":                      "200 at 16",
		"fall 0 0 0 keep keep":                   "200 at 16",
		"fall 0 0 0 keep 1":                      "200 at 16",
		`fall 0 0 0 keep "a"`:                    "200 at 16",
		"fall 0 0 0 keep a keep":                 "204 at 22",
		"fall 0 0 0 keep a 1 keep":               "204 at 24",
		"fall 0 0 0 keep a keep a":               "200 at 23",
		"fall 0 0 0 keep a 1 keep a 2":           "200 at 25",
		"fall 0 0 0 keep b keep a":               "200 at 23",
		"fall 0 0 0 keep b keep b":               "200 at 23",
		"fall 0 0 0 keep s keep a":               "200 at 23",
		"fall 0 0 0 keep s keep b":               "200 at 23",
		"fall 0 0 0 keep s keep s":               "200 at 23",
		"fall 0 0 0 keep s keep":                 "204 at 22",
		"fall 0 0 0 keep s keep ?":               "200 at 23",
		"fall 0 0 0 keep s 1 keep x":             "200 at 25",
		"fall 0 0 0 keep a keep s keep b":        "200 at 30",
		"fall 0 0 0 keep a keep b keep a":        "200 at 30",
		"fall 0 0 0 keep a keep b keep s keep a": "200 at 37",
		"fall 0 0 0 keep a keep b keep s keep":   "204 at 36",
		"fall 0 0 0 keeps a":                     "200 at 11",
		"fall 0 0 0 Keep a":                      "200 at 11",
		`fall 0 0 0 "keep" a`:                    "200 at 11",
		"fall 0 0 0 a":                           "200 at 11",
		"fall 0 0 0 0":                           "200 at 11",
		`fall 0 0 0 "x"`:                         "200 at 11",
		"fall 0 0 0 keep a b":                    "201 at 18",
		"fall 0 0 0 keep a Keep":                 "201 at 18",
		"fall 0 0 0 keep a keeps":                "201 at 18",
		"fall 0 0 0 keep a keep1":                "201 at 18",
		`fall 0 0 0 keep a "keep"`:               "201 at 18",
		`fall 0 0 0 keep a "1"`:                  "201 at 18",
		`fall 0 0 0 keep a 1"2"`:                 "201 at 19",
		"fall 0 0 0 keep a 1 2 reading":          "201 at 22",
		"fall 0 0 keep a":                        "201 at 9",
		"fall keep a":                            "201 at 5",
	} {
		refuses(t, line, fault)
		refuses(t, line+"\nkeep a", fault)
	}
}

func TestP20_5Reading(t *testing.T) {
	for line, fault := range map[string]string{
		"rig a 1 2 3 read":            "200 at 12",
		"rig a 1 2 3 readings":        "200 at 12",
		"rig a 1 2 3 Reading":         "200 at 12",
		`rig a 1 2 3 "reading"`:       "200 at 12",
		"rig a 1 2 3 4":               "200 at 12",
		"rig a 1 2 3 reading reading": "200 at 20",
		"rig a 1 2 3 reading 1":       "200 at 20",
		`rig a 1 2 3 reading "`:       "200 at 20",
		"rig a 1 2 reading":           "201 at 10",
		"rig a reading":               "201 at 6",
		"rig reading":                 "200 at 4",
		"rig a":                       "204 at 5",
		"rig a 1":                     "204 at 7",
		"rig a 1 2":                   "204 at 9",
	} {
		refuses(t, line, fault)
	}
}
