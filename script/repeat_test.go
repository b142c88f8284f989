package script

import (
	"fmt"
	"slices"
	"strings"
	"testing"

	"twine/api"
)

// times: a line, so often.
func times(line string, n int) string { return strings.Repeat(line+"\n", n) }

func ticks(l ...int) []api.Step {
	var out []api.Step
	for _, n := range l {
		out = append(out, tick(n))
	}
	return out
}

func TestP20_5Repeat(t *testing.T) {
	reads(t, "repeat 1\ntick 1\nend", tick(1))
	reads(t, "repeat 2\ntick 1\nend", tick(1), tick(1))
	reads(t, "repeat 3\ntick 1\ntick 2\nend", ticks(1, 2, 1, 2, 1, 2)...)
	reads(t, "tick 7\nrepeat 2\ntick 1\ntick 2\nend\ntick 8", ticks(7, 1, 2, 1, 2, 8)...)
	reads(t, "repeat 2\ntick 1\nend\nrepeat 3\ntick 2\nend\n", ticks(1, 1, 2, 2, 2)...)
	reads(t, "\trepeat 2 # x\n\n# y\n tick 1#\n\n\tend # z\n", ticks(1, 1)...)
	reads(t, "repeat 1000\ntick 1\nend", slices.Repeat(ticks(1), 1000)...)
	reads(t, "repeat 999\ntick 1\nend", slices.Repeat(ticks(1), 999)...)
	reads(t, "repeat 1\nend")
	reads(t, "repeat 2\nend\n")
	reads(t, "repeat 1000\n\n# x\nend")
	reads(t, "repeat 1000\nend\nrepeat 1000\nend\ntick 1", tick(1))
	reads(t, "repeat 2\ntick 1\nend#\nrepeat 1\nend", ticks(1, 1)...)
}

func TestP20_5RepeatWrong(t *testing.T) {
	for text, fault := range map[string]string{
		"repeat":                             "204 at 6",
		"repeat \n1":                         "204 at 7",
		"repeat 0":                           "201 at 7",
		"repeat 0\nend":                      "201 at 7",
		"repeat -1\nend":                     "201 at 7",
		"repeat 1001\nend":                   "201 at 7",
		"repeat 1099511627776\nend":          "201 at 7",
		"repeat x\nend":                      "201 at 7",
		`repeat "2"`:                         "201 at 7",
		"repeat 2 3\nend":                    "200 at 9",
		"repeat 2 tick 1\nend":               "200 at 9",
		`repeat 2"3"`:                        "200 at 8",
		`"repeat" 2`:                         "200 at 0",
		"Repeat 2":                           "200 at 0",
		"repeat 2":                           "204 at 8",
		"repeat 2\n":                         "204 at 9",
		"repeat 2\ntick 1":                   "204 at 15",
		"repeat 2\ntick 1\n# end\n\n \t":     "204 at 25",
		"repeat 2\nend\nrepeat 2\n":          "204 at 22",
		"end":                                "200 at 0",
		"\n end":                             "200 at 2",
		"end x":                              "200 at 0",
		`end "`:                              "200 at 0",
		"tick 1\nend":                        "200 at 7",
		"repeat 2\nend\nend":                 "200 at 13",
		"repeat 2\nend\n\n\tend 3":           "200 at 15",
		"repeat 2\nend x":                    "200 at 13",
		"repeat 2\nend 2":                    "200 at 13",
		`repeat 2` + "\n" + `end"x"`:         "200 at 12",
		"repeat 2\nend end":                  "200 at 13",
		"repeat 2\n\"end\"":                  "200 at 9",
		"repeat 2\nEnd":                      "200 at 9",
		"repeat 2\nrepeat 2":                 "200 at 9",
		"repeat 2\nrepeat":                   "200 at 9",
		"repeat 2\n repeat x":                "200 at 10",
		"repeat 2\nrepeat 0\nend":            "200 at 9",
		"repeat 2\nrepeat 2\nend\nend":       "200 at 9",
		"repeat 2\ntick 1\nrepeat 3 4\n":     "200 at 16",
		"repeat 2\ntick x\nend":              "201 at 14",
		"repeat 2\ngo\nend":                  "200 at 9",
		"repeat 2\ntick\nend":                "204 at 13",
		"repeat 2\nend\nrepeat 2\nrepeat 2 ": "200 at 22",
	} {
		refuses(t, text, fault)
	}
}

func TestP20_6Steps(t *testing.T) {
	t.Parallel()
	want(t, "MaxSteps", api.MaxSteps, maxSteps)
	full := times("tick 1", maxSteps)
	at := fmt.Sprint("203 at ", len(full))
	l := slices.Repeat(ticks(1), maxSteps)
	reads(t, full, l...)
	reads(t, full+"# tick 1\n\n\t\n", l...)
	reads(t, full+"repeat 1000\nend\n", l...)
	for _, line := range []string{"tick 1", "tick x", "tick", "tick 1 1", "cancel", "cancel x", `begin "`, "fall", "mkdir", `file a "f" "`, "report \"\n"} {
		refuses(t, full+line, at)
		refuses(t, full+line+"\ngo", at)
		refuses(t, full+" "+line, fmt.Sprint("203 at ", len(full)+1))
	}
	// What is no step's word is told as such.
	for _, line := range []string{"go", "end", "\"tick\" 1", "\"", "Tick", "end x"} {
		refuses(t, full+line, fmt.Sprint("200 at ", len(full)))
	}
	refuses(t, full+"repeat 0", fmt.Sprint("201 at ", len(full)+7))
	refuses(t, full+"repeat 1", fmt.Sprint("204 at ", len(full)+8))
	refuses(t, times("tick 1", maxSteps-1)+"tick x", fmt.Sprint("201 at ", len(full)-2))
}

// Within a repeat those ahead of it, and those of its body once, are counted.
func TestP20_6StepsWithin(t *testing.T) {
	t.Parallel()
	for _, ahead := range []int{0, 1, 2000, maxSteps - 1, maxSteps} {
		within := maxSteps - ahead
		text := times("tick 1", ahead) + "repeat 1\n" + times("tick 2", within)
		reads(t, text+"end", append(slices.Repeat(ticks(1), ahead), slices.Repeat(ticks(2), within)...)...)
		for _, line := range []string{"tick 2", "tick x", "cancel 1", `write a "`} {
			refuses(t, text+line+"\nend", fmt.Sprint("203 at ", len(text)))
		}
		refuses(t, text+"repeat 1", fmt.Sprint("200 at ", len(text)))
		refuses(t, text+"end x", fmt.Sprint("200 at ", len(text)+4))
		refuses(t, text+"end\ntick 1 2", fmt.Sprint("203 at ", len(text)+4))
		refuses(t, text, fmt.Sprint("204 at ", len(text)))
		if ahead > 0 && within > 0 {
			// So often they are too many, but that is told at the end.
			twice := strings.Replace(text, "repeat 1", "repeat 2", 1)
			refuses(t, twice+"end", fmt.Sprint("203 at ", len(text)))
			refuses(t, twice+"tick x", fmt.Sprint("203 at ", len(text)))
			refuses(t, strings.TrimSuffix(twice, "tick 2\n")+"tick x\nend", fmt.Sprint("201 at ", len(text)-2))
		}
	}
}

func TestP20_6StepsAtTheEnd(t *testing.T) {
	t.Parallel()
	for _, c := range []struct{ ahead, times, body int }{{0, 1000, 4}, {0, 4, 1000}, {0, 1, 4000}, {0, 2, 2000}, {1, 1, 3999}, {2000, 1000, 2}, {2000, 2, 1000}, {3000, 1000, 1}, {3998, 2, 1}, {3999, 1, 1}, {1000, 3, 1000}} {
		text := times("tick 1", c.ahead) + fmt.Sprintln("repeat", c.times) + times("tick 2", c.body)
		reads(t, text+"end", append(slices.Repeat(ticks(1), c.ahead), slices.Repeat(ticks(2), c.times*c.body)...)...)
		refuses(t, text+"end\ncancel x", fmt.Sprint("203 at ", len(text)+4))
		more := "cancel\n" + text
		for _, end := range []string{"end", "end x", `end "`, "end # x"} {
			if c.times > 1 {
				refuses(t, more+end, fmt.Sprint("203 at ", len(more)))
				refuses(t, more+"\t"+end+"\ngo", fmt.Sprint("203 at ", len(more)+1))
			}
		}
	}
	refuses(t, "repeat 1000\n"+times("tick 1", 5)+"end x", "203 at 47")
	refuses(t, "repeat 3\n"+times("tick 1", 1334)+"end", fmt.Sprint("203 at ", 9+1334*7))
	reads(t, "repeat 3\n"+times("tick 1", 1333)+"end\ntick 1", slices.Repeat(ticks(1), 4000)...)
	refuses(t, "repeat 3\n"+times("tick 1", 1333)+"end\ntick 1\ntick 1", fmt.Sprint("203 at ", 9+1333*7+4+7))
}

// brought: a line that brings so many bytes of content.
func brought(word string, n int) string {
	data := strings.Repeat("w", n)
	if word == "file" {
		return fmt.Sprintf("file a \"f\" \"%s\" 6\n", data)
	}
	return fmt.Sprintf("%s a \"f\" \"%s\"\n", word, data)
}

// filled brings all contents that a script may have but for some bytes, in 1001 steps.
func filled(t testing.TB, less int) string {
	t.Helper()
	n := (maxContent - less) / 1000
	text := "repeat 1000\n" + brought("append", n) + "end\n" + brought("append", maxContent-less-1000*n)
	l, fault := parseOf(t, text)
	want(t, "a script with much content", fault, "fine")
	want(t, "its content", contentOf(l), maxContent-less)
	return text
}

func fine(t testing.TB, text string) {
	t.Helper()
	_, fault := parseOf(t, text)
	want(t, "Parse of "+short(text), fault, "fine")
}

func TestP20_6Content(t *testing.T) {
	t.Parallel()
	want(t, "MaxContent", api.MaxContent, maxContent)
	for _, word := range []string{"file", "write", "append"} {
		full := filled(t, 0)
		at := fmt.Sprint("202 at ", len(full))
		fine(t, full+brought(word, 0))
		fine(t, full+`mkdir a "d" 7`+"\n"+`link a "l" "`+strings.Repeat("t", 5000)+`"`+"\n"+`rename a "x" "y"`+"\nbegin \"skip x\"\n")
		refuses(t, full+brought(word, 1), at)
		refuses(t, full+"\t"+brought(word, 1)+"go", fmt.Sprint("202 at ", len(full)+1))
		refuses(t, full+`append a "f" "\x00"`, at)
		for _, less := range []int{1, 7, 4000} {
			text := filled(t, less)
			fine(t, text+brought(word, less))
			fine(t, text+brought(word, less-1)+brought(word, 1))
			refuses(t, text+brought(word, less+1), fmt.Sprint("202 at ", len(text)))
			refuses(t, text+brought(word, less)+brought(word, 1), fmt.Sprint("202 at ", len(text)+len(brought(word, less))))
		}
	}
}

// Bytes are counted as what they stand for, not as they are written.
func TestP20_6ContentCounted(t *testing.T) {
	t.Parallel()
	text := filled(t, 8)
	fine(t, text+`write a "f" "\x00\x01\"\\\"\"\xff\\"`)
	refuses(t, text+`write a "f" "\x00\x01\"\\\"\"\xff\\w"`, fmt.Sprint("202 at ", len(text)))
}

// Content that is too long is told behind all other faults of its line.
func TestP20_6ContentBesideFaults(t *testing.T) {
	t.Parallel()
	text := filled(t, 0)
	for line, wanted := range map[string]string{
		`file a "f" "w" x`:          "201 at 15",
		`file a "f" "w"`:            "204 at 14",
		`file a "f" "w" 6 7`:        "200 at 17",
		`file a "f" "w" 01`:         "201 at 15",
		`file c "f" "w" 6`:          "200 at 5",
		`write a "f" "w" x`:         "200 at 16",
		`write a "f" "w""`:          "200 at 15",
		`write a f "w"`:             "200 at 8",
		`append a "f" "w`:           "200 at 13",
		`append a "f" "w" # x`:      "202 at 0",
		`file a "f" "w" 1099511627`: "202 at 0",
	} {
		var e, at int
		if _, err := fmt.Sscanf(wanted, "%d at %d", &e, &at); err != nil {
			t.Fatal(err)
		}
		refuses(t, text+line, fmt.Sprint(e, " at ", len(text)+at))
	}
	// A step too many is told ahead of it.
	l := text + times("cancel", maxSteps-1001)
	refuses(t, l+brought("write", 1), fmt.Sprint("203 at ", len(l)))
	refuses(t, strings.TrimSuffix(l, "cancel\n")+brought("write", 1), fmt.Sprint("202 at ", len(l)-7))
}

func TestP20_6ContentWithin(t *testing.T) {
	t.Parallel()
	for _, less := range []int{0, 1, 10} {
		text := filled(t, less) + "repeat 1\n"
		fine(t, text+brought("write", less)+"end")
		for _, n := range []string{"1", "2", "1000"} {
			text := strings.Replace(text, "repeat 1\n", "repeat "+n+"\n", 1)
			refuses(t, text+brought("write", less+1)+"end", fmt.Sprint("202 at ", len(text)))
			refuses(t, text+brought("write", less)+brought("file", 1)+"end", fmt.Sprint("202 at ", len(text)+len(brought("write", less))))
			refuses(t, text+`write a "f" "`+strings.Repeat("w", less+1)+`" x`, fmt.Sprint("200 at ", len(text)+len(`write a "f" "" `)+less+1))
		}
		text = strings.Replace(text, "repeat 1\n", "repeat 2\n", 1)
		if less > 0 {
			refuses(t, text+brought("write", less)+"tick x\nend", fmt.Sprint("201 at ", len(text+brought("write", less)+"tick ")))
			refuses(t, text+brought("write", less)+"end", fmt.Sprint("202 at ", len(text+brought("write", less))))
		}
	}
}

func TestP20_6ContentAtTheEnd(t *testing.T) {
	t.Parallel()
	for _, c := range []struct{ times, bytes int }{{1000, 4194}, {128, 32768}, {64, 65000}, {512, 8192}, {256, 16384}} {
		body := brought("write", c.bytes/2) + "tick 1\n" + brought("file", c.bytes-c.bytes/2)
		text := fmt.Sprintln("repeat", c.times) + body
		left := maxContent - c.times*c.bytes
		fine(t, text+"end")
		if left < 60 {
			fine(t, text+"end\n"+brought("append", left))
			refuses(t, text+"end\n"+brought("append", left+1), fmt.Sprint("202 at ", len(text)+4))
			fine(t, brought("append", left)+text+"end")
			more := brought("append", left+1) + text
			for _, end := range []string{"end", "end x", `end "`, "end # x"} {
				refuses(t, more+end, fmt.Sprint("202 at ", len(more)))
				refuses(t, more+"\t"+end+"\ngo", fmt.Sprint("202 at ", len(more)+1))
			}
		}
	}
	// Steps and content too many: the steps are told.
	text := "repeat 1000\n" + brought("write", 5000) + times("cancel", 4)
	refuses(t, text+"end x", fmt.Sprint("203 at ", len(text)))
	text = "repeat 1000\n" + brought("write", 5000) + times("cancel", 3)
	refuses(t, text+"end x", fmt.Sprint("202 at ", len(text)))
	// Ahead of a repeat: once; in its body: so often.
	fine(t, brought("write", 304)+"repeat 1000\n"+brought("write", 4194)+"end\n")
	refuses(t, brought("write", 305)+"repeat 1000\n"+brought("write", 4194)+"end\n", fmt.Sprint("202 at ", len(brought("write", 305)+"repeat 1000\n"+brought("write", 4194))))
}

func TestP20_5Long(t *testing.T) {
	want(t, "MaxScript", api.MaxScript, maxScript)
	reads(t, strings.Repeat("\n", maxScript))
	reads(t, "tick 1#"+strings.Repeat("x", maxScript-7), tick(1))
	reads(t, strings.Repeat(" ", maxScript-6)+"tick 1", tick(1))
	reads(t, `remove a "`+strings.Repeat("w", maxScript-11)+`"`, remove(strings.Repeat("w", maxScript-11)))
	refuses(t, strings.Repeat("x", maxScript), "200 at 0")
	refuses(t, strings.Repeat(" ", maxScript-1)+"x", fmt.Sprint("200 at ", maxScript-1))
	refuses(t, "repeat 1"+strings.Repeat("\n", maxScript-8), fmt.Sprint("204 at ", maxScript))
	for _, text := range []string{
		strings.Repeat("\n", maxScript+1),
		"tick 1#" + strings.Repeat("x", maxScript-6),
		"x" + strings.Repeat(" ", maxScript),
		strings.Repeat("x", maxScript+1),
		strings.Repeat("\"", maxScript+2),
		"repeat 1" + strings.Repeat("\n", maxScript-7),
		times("tick 1", 10000),
		strings.Repeat("x", 1<<20),
	} {
		refuses(t, text, "202 at 0")
	}
}
