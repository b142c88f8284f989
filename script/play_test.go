package script

import (
	"fmt"
	"strings"
	"testing"

	"twine/api"
)

// plays: a script over empty volumes without caps answers such lines.
func plays(t testing.TB, script string, lines ...string) {
	t.Helper()
	playsIn(t, noCaps, script, lines...)
}

func playsIn(t testing.TB, setup, script string, lines ...string) {
	t.Helper()
	wanted := strings.Join(append(lines, ""), "\n")
	if told := playOf(t, setup, script); told != wanted {
		t.Fatalf("Play of %s: got\n%swant\n%s", script, told, wanted)
	}
}

func TestP20_10Faulty(t *testing.T) {
	for _, c := range []struct{ setup, text, fault string }{
		{"", "", "204 at 0"},
		{"bytes", "x", "204 at 5"},
		{"bytes x", "tick 1", "201 at 6"},
		{noCaps + " 1", "tick x", "200 at 33"},
		{strings.Repeat(" ", maxSetup+1), strings.Repeat(" ", maxScript+1), "202 at 0"},
		{noCaps, "x", "200 at 0"},
		{noCaps, "tick 1\nx", "200 at 7"},
		{noCaps, "tick", "204 at 4"},
		{noCaps, "tick -1", "201 at 5"},
		{noCaps, "tick 1\nrepeat 2", "204 at 15"},
		{noCaps, strings.Repeat(" ", maxScript+1), "202 at 0"},
		{noCaps, times("tick 1", maxSteps+1), "203 at 28000"},
	} {
		told, err := Play(c.setup, c.text)
		want(t, short(c.setup)+", "+short(c.text), place(err), c.fault)
		want(t, "what is told beside a fault", told, "")
	}
}

func TestP20_10Nothing(t *testing.T) {
	want(t, "no steps", playOf(t, noCaps, ""), "")
	want(t, "no steps", playOf(t, noCaps, "# x\n\n"), "")
	want(t, "no runs and no times", playOf(t, noCaps, "do 0\nfinish\nrepeat 3\nfinish\nend"), "")
}

func TestP20_10Edits(t *testing.T) {
	plays(t, `mkdir a "d" 5
file a "d/f" "abc" 6
link b "l" "to"
write a "d/f" "xy"
append a "d/f" "z"
chmod a "d/f" 4
rename a "d/f" "d/g"
file a "h" "" 0
exchange a "h" "d"
sync a "h/g"
remove a "d"
settle a
settle b`, "ok", "ok", "ok", "ok", "ok", "ok", "ok", "ok", "ok", "ok", "ok", "ok", "ok")
}

func TestP20_10EditsRefused(t *testing.T) {
	ahead := "mkdir a \"d\" 7\nfile a \"f\" \"x\" 6\nlink a \"l\" \"to\"\nfile a \"d/g\" \"\" 7\n"
	deep := strings.TrimSuffix(strings.Repeat("x/", 65), "/")
	for line, e := range map[string]int{
		`mkdir s "x" 7`:                         90,
		`settle s`:                              90,
		`mkdir a "" 7`:                          91,
		`remove a ""`:                           91,
		`rename a "f" ""`:                       91,
		`mkdir a "f/x" 7`:                       93,
		`write a "x/y" "z"`:                     93,
		`file a "l/x" "" 7`:                     93,
		`write a "x" "z"`:                       94,
		`remove b "f"`:                          94,
		`sync a "d/x"`:                          94,
		`mkdir a "f" 7`:                         95,
		`link a "d/g" "x"`:                      95,
		`append a "d" "x"`:                      96,
		`chmod a "l" 7`:                         96,
		`rename a "d" "f"`:                      96,
		`sync a "l"`:                            96,
		`remove a "d"`:                          97,
		`rename a "d" "d/x"`:                    98,
		`exchange a "d" "d/g"`:                  98,
		`mkdir a ".twine" 7`:                    220,
		`rename a "f" ".twine/x"`:               220,
		`mkdir a "x" 8`:                         222,
		`chmod a "f" -1`:                        222,
		`file a "x" "" 1099511627776`:           222,
		`link a "x" ""`:                         223,
		`link a "x" "\x00"`:                     223,
		`mkdir a "x//y" 7`:                      30,
		`mkdir a "\x00" 7`:                      30,
		`mkdir a "` + deep + `" 7`:              31,
		`rename a "` + deep + `" "x"`:           31,
		`remove a "` + strings.Repeat("x", 256): 0,
	} {
		if e == 0 {
			line, e = line+`"`, 30
		}
		plays(t, ahead+line, "ok", "ok", "ok", "ok", fmt.Sprint("refused err ", e))
	}
}

func TestP20_10Caps(t *testing.T) {
	playsIn(t, "bytes 3 2 0 names 2 1 0 most 9", `file a "f" "abcd" 6
file a "f" "abc" 6
append a "f" "d"
mkdir a "d" 7
mkdir a "e" 7
file b "f" "abc" 6
file b "f" "ab" 6
mkdir b "d" 7`, "refused err 99", "ok", "refused err 99", "ok", "refused err 99", "refused err 99", "ok", "refused err 99")
	// S has its own.
	for setup, last := range map[string]string{
		"bytes 0 0 0 names 0 0 0 most 9":   "report end yes",
		"bytes 0 0 44 names 0 0 0 most 9":  "report fault no err 99",
		"bytes 0 0 45 names 0 0 0 most 9":  "report end yes",
		"bytes 0 0 0 names 0 0 1 most 9":   "report end yes",
		"bytes 1 1 1 names 1 1 1 most 9":   "report fault no err 99",
		"bytes 1 1 45 names 1 1 1 most 9":  "report end yes",
		"bytes 1 1 45 names 1 1 1 most -1": "report end yes",
	} {
		lines := strings.Split(playOf(t, setup, "begin \"\"\nfinish\nreport"), "\n")
		for _, line := range lines {
			if strings.HasPrefix(line, "report") {
				want(t, setup, line, last)
			}
		}
	}
}

// The Most is the run's.
func TestP20_10Most(t *testing.T) {
	script := "mkdir a \"d\" 7\nmkdir a \"e\" 7\nbegin \"\"\nfinish\nreport"
	for most, over := range map[string]string{"-5": "bad no err 192", "0": "bad no err 192", "1": "bad no err 192", "2": "bad no err 192", "3": "end yes", "100": "end yes", "1099511627776": "end yes"} {
		told := playOf(t, "bytes 0 0 0 names 0 0 0 most "+most, script)
		want(t, "most "+most, strings.Contains(told, "\nreport "+over+"\n"), true)
	}
}

func TestP20_10Begin(t *testing.T) {
	plays(t, `begin "go"
begin "skip"
begin "# x\x0a\x0aprefer c x"
begin "skip "
begin "skip x\x0askip *********"
begin "\x0a\x0askip x\x0a"
begin ""
begin "go"`, "rules 1 err 112", "rules 1 err 112", "rules 3 err 112", "rules 1 err 113", "rules 2 err 113", "begun", "refused err 190", "rules 1 err 112")
	plays(t, `begin "`+strings.Repeat("#", 4001)+`"`, "rules 0 err 110")
	plays(t, `begin "`+strings.Repeat("#", 4000)+`"`, "begun")
	plays(t, `begin "`+strings.Repeat(`skip x\x0a`, 65)+`"`, "rules 65 err 111")
}

// The rules are the run's.
func TestP20_10Rules(t *testing.T) {
	ahead := "file a \"x\" \"1\" 6\nfile b \"x\" \"2\" 6\nbegin \"RULES\"\nfinish\nreport"
	for rules, entry := range map[string]string{"": `entry "x" conflict none`, "prefer a x": `entry "x" carry a put`, "prefer b x": `entry "x" carry b put`, "skip x": "report end yes"} {
		told := playOf(t, noCaps, strings.Replace(ahead, "RULES", rules, 1))
		want(t, rules, strings.Contains(told, entry+"\n"), true)
		want(t, rules, strings.Count(told, `entry "x"`), strings.Count(entry, `entry "x"`))
	}
}

func TestP20_10Do(t *testing.T) {
	plays(t, "do 1\ndo 2", "nothing err 191", "nothing err 191", "nothing err 191")
	plays(t, "do 0\nbegin \"\"\ndo 0\ndo 2\ndo 1\ndo 3", "begun", "load", "load", `clean at ".twine"`, `clean at ".twine"`, "scan", "scan")
	plays(t, "begin \"\"\ndo 16\ndo 1\nfinish\ndo 1", "begun", "load", "load", `clean at ".twine"`, `clean at ".twine"`, "scan", "scan", "plan", "sure", "sure", "save", "save", "save", "save", "save", "save", "end", "nothing err 191", "nothing err 191")
	want(t, "1000 times", playOf(t, noCaps, "do 1000"), times("nothing err 191", 1000))
}

func TestP20_10Finish(t *testing.T) {
	whole := []string{"begun", "load", "load", `clean at ".twine"`, `clean at ".twine"`, "scan", "scan", "plan", "sure", "sure", "save", "save", "save", "save", "save", "save", "end"}
	plays(t, "begin \"\"\nfinish\nfinish", whole...)
	plays(t, "begin \"\"\ndo 5\nfinish\nfinish", whole...)
	plays(t, "begin \"\"\ndo 2\nfall 0 0 0\nfinish", "begun", "load", "load", "fell")
	plays(t, "begin \"\"\ndo 2\ncancel\nfinish", "begun", "load", "load", "cancelled")
}

// A tick is one line, however often it is done.
func TestP20_10Tick(t *testing.T) {
	for n, stamp := range map[string]int{"0": 1, "1": 2, "2": 3, "999": 1000, "1000": 1001} {
		plays(t, "tick "+n+"\nmkdir a \"d\" 7\nshow a", "ticked", "ok", `thing "" dir 7 number 1 stamp 1`, fmt.Sprint(`thing "d" dir 7 number 4 stamp `, stamp))
	}
}

func TestP20_10Show(t *testing.T) {
	plays(t, "show a\nshow b\nshow s", `thing "" dir 7 number 1 stamp 1`, `thing "" dir 7 number 2 stamp 1`, `thing "" dir 7 number 3 stamp 1`)
	plays(t, `mkdir a "d" 0
tick 1
file a "d/f\x0a" "a\"\\\x00\x7f\xff~" 6
file a "e" "" 7
link a "d/\"l\"" "t\\o\xc3\xa9"
sync a "d/f\x0a"
append a "d/f\x0a" "more"
chmod a "" 3
show a
show b`, "ok", "ticked", "ok", "ok", "ok", "ok", "ok", "ok",
		`thing "" dir 3 number 1 stamp 2`,
		`thing "d" dir 0 number 4 stamp 1`,
		`thing "d/\"l\"" link "t\\o\xc3\xa9" number 7 stamp 2`,
		`thing "d/f\x0a" file 6 "a\"\\\x00\x7f\xff~more" sure 7 number 5 stamp 2`,
		`thing "e" file 7 "" sure 0 number 6 stamp 2`,
		`thing "" dir 7 number 2 stamp 1`)
	told := playOf(t, noCaps, "begin \"\"\nfinish\nshow s")
	want(t, "S's archive", strings.Contains(told, "\nthing \"\" dir 7 number 3 stamp 1\nthing \"archive\" file 7 \"twne\\x03\\x01"), true)
	want(t, "S's archive", strings.HasSuffix(told, "\" sure 45 number 6 stamp 1\n"), true)
}

func TestP20_10Fall(t *testing.T) {
	ahead := "file a \"f\" \"abc\" 6\nfile a \"g\" \"defg\" 6\nfile b \"h\" \"xyz\" 6\n"
	root := func(v int) string { return fmt.Sprintf(`thing "" dir 7 number %d stamp 1`, v+1) }
	thing := func(p, data string, n int) string {
		return fmt.Sprintf(`thing %q file 6 %q sure %d number %d stamp 2`, p, data, len(data), n)
	}
	for line, lines := range map[string][]string{
		"fall 0 0 0":                       {root(0), root(1)},
		"fall 0 1 0":                       {root(0), root(1), thing("h", "", 6)},
		"fall 1 0 9":                       {root(0), thing("f", "", 4), root(1)},
		"fall 9 9 9":                       {root(0), thing("f", "", 4), thing("g", "", 5), root(1), thing("h", "", 6)},
		"fall 9 9 9 keep a 2":              {root(0), thing("f", "ab", 4), thing("g", "de", 5), root(1), thing("h", "", 6)},
		"fall 9 9 9 keep a 1 2 keep b 2":   {root(0), thing("f", "a", 4), thing("g", "de", 5), root(1), thing("h", "xy", 6)},
		"fall 2 -1 9 keep a -1 3 keep b 2": {root(0), thing("f", "", 4), thing("g", "def", 5), root(1)},
		"fall 9 9 9 keep b 1 keep s 7":     {root(0), thing("f", "", 4), thing("g", "", 5), root(1), thing("h", "x", 6)},
	} {
		plays(t, ahead+line+"\nshow a\nshow b", append([]string{"ok", "ok", "ok", "fell"}, lines...)...)
	}
	plays(t, ahead+"fall 1 0 0 keep a 99\nshow a", "ok", "ok", "ok", "fell", root(0), `thing "f" file 6 "abc" sure 3 number 4 stamp 1`)
	plays(t, "begin \"\"\nfall 0 0 0\ncancel\nreport\nbegin \"\"", "begun", "fell", "refused err 191", "report under no", "begun")
}

func TestP20_10Rig(t *testing.T) {
	plays(t, "rig s 0 1 0\nbegin \"\"\ndo 1\nreport", "rigged", "begun", "fault err 92", "report fault no err 92")
	plays(t, "rig s 1 1 0\nbegin \"\"\ndo 2", "rigged", "begun", "load", "load")
	plays(t, "rig s 0 0 0\nrig a 0 1 0\nrig b 0 1 0 reading\nbegin \"\"\ndo 4", "rigged", "rigged", "rigged", "begun", "load", "load", "fault err 92", "nothing err 191")
	plays(t, "rig b 0 1 0\nbegin \"\"\ndo 4", "rigged", "begun", "load", "load", `clean at ".twine"`, "fault err 92")
	plays(t, "rig a 0 1 0 reading\nbegin \"\"\ndo 3", "rigged", "begun", "load", "load", "fault err 92")
	plays(t, "rig a 1 1 0 reading\nbegin \"\"\ndo 4\nreport", "rigged", "begun", "load", "load", `clean at ".twine"`, "fault err 92", "report fault no err 92")
	// Of an Append that fails some bytes are laid.
	told := playOf(t, noCaps, "rig s 2 1 7\nbegin \"\"\nfinish\nshow s")
	want(t, "what is laid", strings.HasSuffix(told, "\nthing \"archive.new\" file 7 \"twne\\x03\\x01\\x01\" sure 0 number 6 stamp 1\n"), true)
}

func TestP20_10Cancel(t *testing.T) {
	plays(t, "cancel\nbegin \"\"\ncancel\ncancel\nreport", "refused err 191", "begun", "cancelled", "refused err 191", "report cancel no")
	plays(t, "mkdir a \"d\" 7\nbegin \"\"\ndo 8\ncancel\nreport\ncancel\nreport", "ok", "begun", "load", "load", `clean at ".twine"`, `clean at ".twine"`, "scan", `scan at "d"`, "scan", "plan",
		"cancelled", "report under no", "cancelled", "report cancel no", `entry "" both none`, `entry "d" carry a left`)
}

func TestP20_10Forget(t *testing.T) {
	plays(t, "begin \"\"\nforget\ncancel\nforget\nforget", "begun", "refused err 190", "cancelled", "forgotten", "forgotten")
	told := playOf(t, noCaps, "begin \"\"\nfinish\nforget\nbegin \"\"\nfinish\nreport\nbegin \"\"\nfinish\nreport")
	want(t, "reports", strings.Count(told, "report end yes forgot\nentry \"\" both none\n"), 1)
	want(t, "reports", strings.HasSuffix(told, "\nend\nreport end yes\nentry \"\" both none\n"), true)
	told = playOf(t, "bytes 0 0 0 names 0 0 0 most 1", "mkdir a \"d\" 7\nforget\nbegin \"\"\nfinish\nreport")
	want(t, "a report with all", strings.HasSuffix(told, "\nbad err 192\nreport bad no err 192 forgot\n"), true)
}

func TestP20_10Report(t *testing.T) {
	plays(t, "report\nreport", "report under no", "report under no")
	plays(t, "begin \"\"\nreport\ndo 3\nreport", "begun", "report under no", "load", "load", `clean at ".twine"`, "report under no")
}

// scene: a script, and what its answer has, besides all else.
type scene struct{ setup, script, has string }

// upTo: a script with a run under way, and with as many steps behind it as the run goes to tell a line for the first time.
func upTo(script, line string) string {
	l, _ := plainParse(script)
	ahead := plainPlay(api.Setup{Most: 100}, l)
	l, _ = plainParse(script + "finish")
	for n, told := range plainPlay(api.Setup{Most: 100}, l)[len(ahead):] {
		if told == line {
			return script + fmt.Sprintln("do", n+1)
		}
	}
	panic("it never tells " + line)
}

// scenes bring about every word of Did, Over, Saved, What and How that a script can.
func scenes() []scene {
	files := "file a \"f\" \"abc\" 6\nfile b \"g\" \"xyz\" 4\nmkdir a \"d\" 5\ntick 1\nbegin \"\"\nfinish\nreport\ntick 1\n"
	plan := "load\nload\nscan\n" // told once the staging places are there
	changed := files + "write a \"f\" \"1\"\nbegin \"\"\n"
	planned, put := upTo(changed, "plan"), upTo(changed, `put at "f" item 1`)
	putAway := upTo(changed, `away at "f" item 1`)
	return []scene{
		{noCaps, files, "plan\nlook at \"d\" item 1\nstage at \"d\" item 1\nput at \"d\" item 1\nlook at \"f\" item 2\nstage at \"f\" item 2\nput at \"f\" item 2\n"},
		{noCaps, files, "sure\nsure\nsure\nsure\nsure\nsure\nsave\nsave\nsave\nsave\nsave\nsave\nend\nreport end yes\nentry \"\" both none\nentry \"d\" carry a put\nentry \"f\" carry a put\nentry \"g\" carry b put\n"},
		{noCaps, files + "begin \"\"\nfinish\nreport", plan},
		{noCaps, files + "begin \"\"\nfinish\nreport", "report end yes\nentry \"\" both none\nentry \"d\" both none\nentry \"f\" agreed none\nentry \"g\" agreed none\n"},
		{noCaps, files + "write a \"f\" \"new\"\nbegin \"\"\nfinish\nreport", "put at \"f\" item 1\naway at \"f\" item 1\n"},
		{noCaps, files + "write a \"f\" \"1\"\nwrite b \"f\" \"2\"\nbegin \"\"\nfinish\nreport", "entry \"f\" conflict none\n"},
		{noCaps, "mkdir a \"d\" 5\nmkdir b \"d\" 6\nbegin \"\"\nfinish\nreport", "entry \"d\" modes none\n"},
		{noCaps, files + "chmod b \"d\" 1\nbegin \"\"\nfinish\nreport\nshow a", "plan\nput at \"d\" item 1\nsure"},
		{noCaps, files + "chmod b \"d\" 1\nbegin \"\"\nfinish\nreport\nshow a", "entry \"d\" both b put\n"},
		{noCaps, "mkdir a \"d\" 7\nfile a \"d/x.o\" \"\" 6\nbegin \"skip *.o\"\nfinish\nremove b \"d\"\nbegin \"skip *.o\"\nfinish\nreport", "entry \"d\" kept a none\n"},
		{noCaps, files + "remove b \"g\"\nbegin \"\"\nfinish\nreport\nshow a", "look at \"g\" item 1\nput at \"g\" item 1\nsure\n"},
		{noCaps, planned + "write b \"f\" \"2\"\nfinish\nreport", "overtaken at \"f\" item 1\n"},
		{noCaps, planned + "write b \"f\" \"2\"\nfinish\nreport", "entry \"f\" carry a overtaken\n"},
		{noCaps, planned + "rig b 0 9 0\nfinish\nreport", "failed err 92 at \"f\" item 1\n"},
		{noCaps, planned + "rig b 0 1 0\nfinish\nreport", "entry \"f\" carry a failed\n"},
		{noCaps, planned + "cancel\nfinish\nreport", "cancelled\nsure\n"},
		{noCaps, planned + "cancel\nfinish\nreport", "report end yes\nentry \"\" both none\nentry \"d\" both none\nentry \"f\" carry a left\n"},
		{noCaps, putAway + "rig a 0 1 0\nfinish\nreport", "sure err 92\n"},
		{noCaps, putAway + "rig a 0 1 0\nfinish\nreport", "entry \"f\" carry a weak\n"},
		{noCaps, put + "rig b 0 1 0\nfinish\nreport", "rigged\naway err 92 at \"f\" item 1\n"},
		{noCaps, "rig s 6 1 0\nbegin \"\"\nfinish\nreport", "save\nfault err 92\nreport fault perhaps err 92\nentry \"\" both none\n"},
		{noCaps, "rig s 5 1 0\nbegin \"\"\nfinish\nreport", "save\nfault err 92\nreport fault no err 92\nentry \"\" both none\n"},
		{noCaps, "begin \"\"\ndo 14\ncancel\ncancel\nreport", "cancelled\ncancelled\nreport cancel perhaps\nentry \"\" both none\n"},
		{noCaps, "begin \"\"\ndo 13\ncancel\ncancel\nreport", "cancelled\ncancelled\nreport cancel no\nentry \"\" both none\n"},
		{noCaps, "begin \"\"\ndo 15\ncancel\ncancel\nreport", "cancelled\ncancelled\nreport cancel yes\nentry \"\" both none\n"},
		{"bytes 0 0 0 names 0 0 0 most 2", "mkdir a \"d\" 7\nmkdir a \"e\" 7\nbegin \"\"\nfinish\nreport", "bad err 192\nreport bad no err 192\n"},
		{"bytes 0 0 0 names 0 0 0 most 2", "mkdir a \"d\" 7\nmkdir b \"e\" 7\nbegin \"\"\nfinish\nreport", "entry \"d\" carry a put\nentry \"e\" carry b left\n"},
		{"bytes 0 0 0 names 0 1 0 most 9", "mkdir a \"d\" 7\nbegin \"\"\nfinish\nreport", "failed err 99 at \"d\" item 1\n"},
		{noCaps, "file a \"f\" \"\" 6\nbegin \"\"\ndo 4\nrig a 2 1 0 reading\nfinish\nreport", "report end yes\nentry \"\" both none\nentry \"f\" conflict none\n"},
		{noCaps, files + "link a \"d/l\" \"x\"\nexchange b \"f\" \"g\"\nbegin \"\"\nfinish\nreport\nshow a\nshow b", "thing \"d/l\" link \"x\" number"},
	}
}

func TestP20_10Scenes(t *testing.T) {
	for _, c := range scenes() {
		if told := playOf(t, c.setup, c.script); !strings.Contains(told, c.has) {
			t.Errorf("%s\nwas told\n%swhich hasn't\n%s", c.script, told, c.has)
		}
	}
}

// seen: what stands in answers, by the words that lines begin with: the word at a place, counted.
func seen(told string, counted map[string]int) {
	for _, line := range strings.Split(told, "\n") {
		words := strings.Fields(line)
		switch {
		case len(words) == 0:
		case words[0] == "report":
			counted["over "+words[1]]++
			counted["saved "+words[2]]++
		case words[0] == "entry":
			counted["what "+words[2]]++
			counted["how "+words[len(words)-1]]++
		default:
			counted["did "+words[0]]++
		}
	}
}

// Every word that a script can bring about is brought about above. (That a step did begin is never told by Do.)
func TestP20_10Words(t *testing.T) {
	counted := map[string]int{}
	for _, c := range scenes() {
		seen(playOf(t, c.setup, c.script), counted)
	}
	seen(playOf(t, noCaps, "do 1\nreport"), counted)
	for kind, words := range map[string]string{
		"did":   "nothing load clean scan plan look overtaken stage put away failed sure save end bad fault",
		"over":  "under end bad fault cancel",
		"saved": "no perhaps yes",
		"what":  "agreed both carry conflict modes kept",
		"how":   "none put overtaken failed left weak",
	} {
		for _, word := range strings.Fields(words) {
			if counted[kind+" "+word] == 0 {
				t.Errorf("no script has brought about the word %s of %s", word, kind)
			}
		}
	}
	want(t, "a begin", replyLine(api.Reply{Did: api.DidBegin}), "begin")
}

// Each number of a reply, a report and an entry has its word.
func TestP20_10EveryWord(t *testing.T) {
	for did := range api.DidFault + 1 {
		for _, r := range []api.Reply{{Did: did}, {Did: did, Err: 92}, {Did: did, Path: "a\"b"}, {Did: did, Item: 12}, {Did: did, Err: 5, Path: "x", Item: 1}, {Did: did, Path: "x/y", Item: 3}} {
			want(t, "a reply", replyLine(r), plainReply(r))
		}
	}
	for over := range api.OverCancel + 1 {
		for saved := range api.SavedYes + 1 {
			for _, r := range []api.Report{{Over: over, Saved: saved}, {Over: over, Saved: saved, Err: 65}, {Over: over, Saved: saved, Forgot: true}, {Over: over, Saved: saved, Err: 1, Forgot: true}} {
				want(t, "a report", reportLine(r), plainReport(r)[0])
			}
		}
	}
	for what := api.Agreed; what <= api.Kept; what++ {
		for side := range 3 {
			for how := range api.HowWeak + 1 {
				e := api.Entry{Path: "d/\xff", What: what, Side: side, How: how}
				want(t, "an entry", entryLine(e), plainReport(api.Report{Entries: []api.Entry{e}})[1])
			}
		}
	}
}
