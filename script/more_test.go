package script

import (
	"fmt"
	"strings"
	"testing"

	"twine/api"
)

// This file: answers of MaxPlay bytes, and such that would be longer.

// lengthy: a script whose answer has all bytes but for some: a file's bytes, shown 130 times, steps of no run (16 bytes each), and the rest of `ok` and `ticked`.
func lengthy(t testing.TB, less int) string {
	t.Helper()
	script := "file a \"f\" \"" + strings.Repeat("w", 32000) + "\" 6\nrepeat 130\nshow a\nend\n"
	told, err := Play(noCaps, script)
	want(t, "the script", place(err), "fine")
	left := maxPlay - less - len(told)
	for ; left > 40; left -= 16 * min(1000, (left-24)/16) {
		script += fmt.Sprintln("do", min(1000, (left-24)/16))
	}
	script += times("settle a", (left-left%3*7)/3) + times("tick 0", left%3)
	told = playOf(t, noCaps, script)
	want(t, "what is told", len(told), maxPlay-less)
	want(t, "the last line", strings.HasSuffix(told, "more\n"), false)
	return script
}

func TestP20_10Full(t *testing.T) {
	t.Parallel()
	want(t, "MaxPlay", api.MaxPlay, maxPlay)
	full := lengthy(t, 0)
	told, _ := Play(noCaps, full)
	for _, line := range []string{
		"tick 1", "settle a", "settle s", "do 1", "do 1000", "cancel", "forget", "report", "show a", "show b", "fall 0 0 0", "rig a 0 0 0", `begin "x"`, `begin ""`, "tick 1\ntick 1", "report\nshow a\nreport",
	} {
		more := playOf(t, noCaps, full+line)
		want(t, line, more == told+"more\n", true)
		want(t, line, len(more), maxPlay+5)
	}
	for _, line := range []string{"do 0", "finish", "finish\ndo 0", "# tick 1"} {
		want(t, line, playOf(t, noCaps, full+line) == told, true)
	}
}

// One byte less, and a line of three bytes, one of seven.
func TestP20_10Nearly(t *testing.T) {
	t.Parallel()
	for _, less := range []int{2, 3, 6, 7} {
		script := lengthy(t, less)
		ahead, _ := Play(noCaps, script)
		for line, word := range map[string]string{"settle a": "ok\n", "tick 0": "ticked\n"} {
			told := playOf(t, noCaps, script+line+"\ntick 0")
			if len(word) > less {
				word = ""
			}
			want(t, line, told == ahead+word+"more\n", true)
		}
	}
}

// laterPlayer: one that has told all bytes but for some.
func laterPlayer(less int) *player {
	s, _ := plainSetup(noCaps)
	p := newPlayer(s)
	p.told.WriteString(strings.Repeat("x", maxPlay-less))
	return p
}

// toldBy plays steps behind all bytes but for some, and answers what is told further.
func toldBy(t testing.TB, less int, steps string) string {
	t.Helper()
	l, err := plainParse(steps)
	want(t, steps, place(err), "fine")
	p := laterPlayer(less)
	p.playAll(l)
	told := p.told.String()[maxPlay-less:]
	wanted, room := "", less
	for _, line := range plainPlay(api.Setup{Most: 100}, l) {
		if room -= len(line) + 1; room < 0 {
			wanted += "more\n"
			break
		}
		wanted += line + "\n"
	}
	want(t, fmt.Sprint("with room for ", less, ": ", steps), told, wanted)
	return told
}

// A line that just fits is laid, with its line feed; one that doesn't is not, nor a shorter one behind it.
func TestP20_10Fits(t *testing.T) {
	t.Parallel()
	for line, size := range map[string]int{"settle a": 3, "settle s": 15, "tick 1": 7, "do 1": 16, "cancel": 16, "forget": 10, "report": 16, "fall 0 0 0": 5, "rig a 0 0 0": 7, `begin "x"`: 16, `begin ""`: 6, "show b": 32} {
		for _, less := range []int{0, 1, size - 1} {
			want(t, line, toldBy(t, less, line), "more\n")
			want(t, line, toldBy(t, less, line+"\nsettle a"), "more\n")
		}
		just := toldBy(t, size, line)
		want(t, line, len(just), size)
		want(t, line, strings.Contains(just, "more"), false)
		want(t, line, toldBy(t, size, line+"\nsettle a\nsettle a"), just+"more\n")
		want(t, line, toldBy(t, size+2, line+"\nsettle a\nsettle a"), just+"more\n")
		want(t, line, toldBy(t, size+3, line+"\nsettle a\nsettle a"), just+"ok\nmore\n")
	}
}

// Where one step tells several lines, it stops at the first that doesn't fit.
func TestP20_10WithinAStep(t *testing.T) {
	t.Parallel()
	for _, line := range []string{"do 1000", "mkdir b \"d\" 7\nmkdir b \"e\" 7\nshow b\nshow b", "mkdir a \"d\" 7\nbegin \"\"\nfinish\nreport\nshow a", "begin \"\"\ndo 20\nreport", "report\nreport\nreport"} {
		all := toldBy(t, maxPlay, line)
		for less := range len(all) {
			if less > 40 && less < len(all)-120 {
				continue
			}
			told := toldBy(t, less, line)
			want(t, line, strings.HasSuffix("\n"+told, "\nmore\n"), true)
			want(t, line, strings.HasPrefix(all, strings.TrimSuffix(told, "more\n")), true)
			want(t, line, len(told) <= less+5, true)
		}
		want(t, line, toldBy(t, len(all), line), all)
	}
}

// Behind the line `more` nothing further is done.
func TestP20_10NothingFurther(t *testing.T) {
	t.Parallel()
	for _, c := range []struct {
		less            int
		steps           string
		clock, ofA, did int
	}{
		{0, "tick 3\ntick 5\nmkdir a \"d\" 7", 4, 1, api.DidNothing},
		{7, "tick 3\ntick 5\nmkdir a \"d\" 7", 9, 1, api.DidNothing},
		{0, "mkdir a \"d\" 7\nmkdir a \"e\" 7", 1, 2, api.DidNothing},
		{3, "mkdir a \"d\" 7\nmkdir a \"e\" 7\nmkdir a \"f\" 7", 1, 3, api.DidNothing},
		{0, "show b\ntick 1", 1, 1, api.DidNothing},
		{40, "show b\nshow b\ntick 1", 1, 1, api.DidNothing},
		{0, "report\ntick 1", 1, 1, api.DidNothing},
		{0, "fall 0 0 0\nfall 0 0 0", 2, 1, api.DidNothing},
		{0, "begin \"x\"\nbegin \"\"", 1, 1, api.DidNothing},
		{0, "begin \"\"\nfinish", 1, 1, api.DidBegin},
		{6, "begin \"\"\nfinish\ntick 1", 1, 1, api.DidLoad},
		{6, "begin \"\"\ndo 1000\ntick 1", 1, 1, api.DidLoad},
		{11, "begin \"\"\ndo 1000\ntick 1", 1, 1, api.DidLoad},
		{16, "begin \"\"\ndo 1000\ntick 1", 1, 2, api.DidClean},
		{16, "begin \"\"\nfinish\ntick 1", 1, 2, api.DidClean},
		{6, "begin \"\"\ncancel\ntick 1", 1, 1, api.DidNothing},
		{5, "begin \"\"\ncancel\ntick 1", 1, 1, api.DidBegin},
	} {
		l, _ := plainParse(c.steps)
		p := laterPlayer(c.less)
		p.playAll(l)
		want(t, c.steps+": the last line", strings.HasSuffix(p.told.String(), "more\n"), true)
		want(t, c.steps+": the clock", p.world.Clock(), c.clock)
		want(t, c.steps+": things on A", len(p.world.Image(api.A)), c.ofA)
		want(t, c.steps+": the run", p.run.Status().Phase, c.did)
	}
}

// The first line of all may be too long: a file that a script brings in pieces, each byte of which takes four.
func TestP20_10OneLongLine(t *testing.T) {
	t.Parallel()
	script := "file a \"f\" \"\" 6\nrepeat 1000\nappend a \"f\" \"" + strings.Repeat(`\x00`, 1100) + "\"\nend\n"
	told := playOf(t, noCaps, script+"show a\nshow b")
	want(t, "what is told", told, times("ok", 1001)+"thing \"\" dir 7 number 1 stamp 1\nmore\n")
	script = strings.Replace(script, "1000", "900", 1)
	told = playOf(t, noCaps, script+"show a\nshow b")
	want(t, "the last line", strings.HasSuffix(told, "\nthing \"\" dir 7 number 2 stamp 1\n"), true)
}
