package script

import (
	"fmt"
	"strings"
	"testing"

	"twine/api"
)

func tick(n int) api.Step { return api.Step{Kind: api.StepTick, A: n} }

func edit(v int, e api.Edit) api.Step { return api.Step{Kind: api.StepEdit, Volume: v, Edit: e} }

func remove(path string) api.Step { return edit(api.A, api.Edit{Kind: api.EditRemove, Path: path}) }

func TestP20_1PassedOver(t *testing.T) {
	for _, text := range []string{
		"", "\n", "\n\n\n\n", " ", "\t", " \t \t", " \n\t\n", "#", "##", "#\n#", " #", "\t# x", "# tick", "#tick x\n# \"\n", "#\"", "# \xff\x00\r\n\n", "\n \n\t#\n\n", "#\t\n# end\n# repeat 2",
	} {
		reads(t, text)
		reads(t, text+"\ntick 1", tick(1))
		reads(t, text+"\ntick 1\n"+text, tick(1))
		reads(t, "tick 1 "+text+"\n tick 2", tick(1), tick(2))
	}
}

// A line feed ends a line; behind the last one stands a line, too.
func TestP20_1Lines(t *testing.T) {
	reads(t, "tick 1", tick(1))
	reads(t, "tick 1\n", tick(1))
	reads(t, "tick 1\n\n\n", tick(1))
	reads(t, "\n\ntick 1", tick(1))
	reads(t, "tick 1\ntick 2", tick(1), tick(2))
	reads(t, "tick 1\n\n \ntick 2\n", tick(1), tick(2))
	refuses(t, "tick 1 tick 2", "200 at 7")
	refuses(t, "tick\n1", "204 at 4")
	refuses(t, "tick 1\ntick", "204 at 11")
	refuses(t, "tick 1\ntick\n", "204 at 11")
	refuses(t, "tick 1\ntick  \n", "204 at 13")
	refuses(t, "tick 1\ntick\t# 1\n\n", "204 at 15")
	refuses(t, "tick 1\n\n#\ntick #", "204 at 16")
}

func TestP20_1Blanks(t *testing.T) {
	s := edit(api.B, api.Edit{Kind: api.EditFile, Path: "p", Data: []byte("q"), Mode: 3})
	for _, text := range []string{
		`file b "p" "q" 3`, `  file  b  "p"  "q"  3  `, "\tfile\tb\t\"p\"\t\"q\"\t3\t", "\t file \t b \t\"p\" \t \"q\"\t \t3", `file b"p""q"3`, `file b"p" "q"3#`, `file b"p""q"3# "`, `file b "p""q" 3 # 4`,
	} {
		reads(t, text, s)
		reads(t, text+"\n"+text, s, s)
	}
}

// A word ends at a blank, a tab, a `#`, a double quote or the line's end, and nowhere else.
func TestP20_1Words(t *testing.T) {
	reads(t, "tick 1#2", tick(1))
	reads(t, "cancel#", api.Step{Kind: api.StepCancel})
	reads(t, `show a#"`, api.Step{Kind: api.StepShow})
	refuses(t, "tick#1", "204 at 6")
	refuses(t, `tick"1"`, "201 at 4")
	refuses(t, `tick 1"1"`, "200 at 6")
	refuses(t, `cancel"x"`, "200 at 6")
	refuses(t, `cancel"`, "200 at 6")
	refuses(t, `"cancel"`, "200 at 0")
	refuses(t, ` "cancel`, "200 at 1")
	refuses(t, `"tick" 1`, "200 at 0")
	for b := range 256 {
		c := string([]byte{byte(b)})
		switch c {
		case " ", "\t", "\n", "#":
			reads(t, "cancel"+c, api.Step{Kind: api.StepCancel})
			reads(t, "tick 1"+c, tick(1))
			reads(t, c+"\ntick 1"+c, tick(1))
			refuses(t, "tick"+c+"x", map[string]string{" ": "201 at 5", "\t": "201 at 5", "\n": "204 at 4", "#": "204 at 6"}[c])
		case `"`:
			refuses(t, "cancel"+c, "200 at 6")
			refuses(t, "tick 1"+c, "200 at 6")
			refuses(t, "tick"+c+"x", "200 at 4")
		default:
			refuses(t, "cancel"+c, "200 at 0")
			refuses(t, c+"cancel", "200 at 0")
			refuses(t, "can"+c+"cel", "200 at 0")
			refuses(t, " "+c, "200 at 1")
			refuses(t, "cancel "+c, "200 at 7")
			refuses(t, "cancel\n"+c+" x", "200 at 7")
			refuses(t, "show a"+c, "200 at 5")
			refuses(t, "show "+c+"a", "200 at 5")
			if b < '0' || b > '9' {
				refuses(t, "tick 1"+c, "201 at 5")
				refuses(t, "tick "+c, "201 at 5")
			}
			reads(t, "tick 1 #"+c, tick(1))
		}
	}
}

// Places are bytes, also where a rune has several.
func TestP20_1PlacesAreBytes(t *testing.T) {
	refuses(t, "cancel é日\u2028 x", "200 at 7")
	refuses(t, "# é日\ncancel x", "200 at 15")
	refuses(t, "tick é", "201 at 5")
	refuses(t, "# \xff\xfe\xc3\ntick \xff", "201 at 11")
	refuses(t, "show \u00a0a", "200 at 5")
	refuses(t, "show\u00a0a", "200 at 0")
	refuses(t, "show\u2003a", "200 at 0")
	refuses(t, "tick #é", "204 at 8")
	refuses(t, "tick\r\n", "200 at 0")
	refuses(t, "tick 1\r\n", "201 at 5")
	refuses(t, "tick 1 \r\n", "200 at 7")
	refuses(t, "tick 1\n\r\n", "200 at 7")
	refuses(t, "tick 1\rtick 1", "201 at 5")
	reads(t, "tick 1 #\r\ntick 2#\r", tick(1), tick(2))
}

// The first fault is told: line by line, in each line from the left.
func TestP20_1First(t *testing.T) {
	refuses(t, "do x\ngo", "201 at 3")
	refuses(t, "go\ndo x", "200 at 0")
	refuses(t, "mkdir c b x y", "200 at 6")
	refuses(t, "mkdir a b x y", "200 at 8")
	refuses(t, `mkdir a "b" x y`, "201 at 12")
	refuses(t, `mkdir a "b" 7 y`, "200 at 14")
	refuses(t, `mkdir x "b`, "200 at 6")
	refuses(t, `mkdir a "b" "`, "200 at 12")
	refuses(t, "repeat 2\ntick 1\ndo", "204 at 18")
	refuses(t, "repeat 2\ntick 1\nend x", "200 at 20")
}

func TestP20_2Texts(t *testing.T) {
	for text, says := range map[string]string{
		``: "", `a`: "a", ` `: " ", `#`: "#", ` # x `: " # x ", `~`: "~", `'`: "'", `a/b`: "a/b",
		`\"`: `"`, `\\`: `\`, `\\\"`: `\"`, `\"\\`: `"\`, `\\\\`: `\\`, `\\x41`: `\x41`, `\\n`: `\n`, `\"a\"`: `"a"`,
		`\x00`: "\x00", `\x0a`: "\n", `\x09`: "\t", `\x0d`: "\r", `\x20`: " ", `\x22`: `"`, `\x5c`: `\`, `\x41`: "A", `\x7e`: "~", `\x7f`: "\x7f", `\x80`: "\x80", `\xff`: "\xff", `\xc3\xa9`: "é", `\x4142`: "A42", `\x41\x42`: "AB", `a\x00b`: "a\x00b", `\x99\xaf`: "\x99\xaf", `\x5c\x22`: `\"`,
	} {
		reads(t, `remove a "`+text+`"`, remove(says))
		reads(t, `remove a "`+text+`"# "`, remove(says))
		reads(t, `remove a"`+text+`"`+"\n", remove(says))
		reads(t, `rename a "`+text+`""`+text+`"`, edit(0, api.Edit{Kind: api.EditRename, Path: says, To: says}))
		reads(t, `link b "`+text+`" "x"`, edit(1, api.Edit{Kind: api.EditLink, Path: says, To: "x"}))
		reads(t, `write s "x""`+text+`"`, edit(2, api.Edit{Kind: api.EditWrite, Path: "x", Data: []byte(says)}))
		reads(t, `begin "`+text+`"`, api.Step{Kind: api.StepBegin, Rules: says})
	}
}

// Each byte in a quoted text, as itself and by its escape.
func TestP20_2Bytes(t *testing.T) {
	for b := range 256 {
		c := string([]byte{byte(b)})
		reads(t, fmt.Sprintf(`remove a "x\x%02xy"`, b), remove("x"+c+"y"))
		switch {
		case c == `"`:
			refuses(t, `remove a "x`+c+`y"`, "200 at 12")
		case c == `\`:
			refuses(t, `remove a "x`+c+`y"`, "200 at 9")
		case b >= 0x20 && b <= 0x7e:
			reads(t, `remove a "x`+c+`y"`, remove("x"+c+"y"))
		default:
			refuses(t, `remove a "x`+c+`y"`, "200 at 9")
			refuses(t, `remove a "`+c+`"`, "200 at 9")
		}
		if !strings.Contains(`"\x`, c) {
			refuses(t, `remove a "\`+c+`"`, "200 at 9")
			refuses(t, `remove a "\`+c+`41"`, "200 at 9")
		}
		if !strings.Contains("0123456789abcdef", c) {
			refuses(t, `remove a "\x`+c+`0"`, "200 at 9")
			refuses(t, `remove a "\x0`+c+`"`, "200 at 9")
		}
	}
}

// brokenTexts: quoted texts that can't stand anywhere.
func brokenTexts() []string {
	return []string{
		`"`, `"a`, `"\`, `"\"`, `"a\"`, `"\\\"`, `"\x`, `"\x4`, `"\x41`, `"a # b`, `"a 7`,
		`"\n"`, `"\t"`, `"\'"`, `"\a"`, `"\0"`, `"\ "`, `"\X41"`, `"\u0041"`, `"\x"`, `"\x4"`, `"\x4g"`, `"\xg4"`, `"\x 4"`, `"\x4 "`, `"\xA0"`, `"\xaF"`, `"\xFF"`, `"\x+1"`, `"\x-1"`, `"\x\x"`, `"\x4\"`,
		"\"\t\"", "\"\r\"", "\"\x00\"", "\"\x1f\"", "\"\x7f\"", "\"\x80\"", "\"\xff\"", "\"é\"", "\"日\"", "\"\u00a0\"", "\"\ufffd\"",
	}
}

// A text that is wrong is told at its first double quote, whatever is wanted there, and where nothing may stand.
func TestP20_2Broken(t *testing.T) {
	for _, x := range brokenTexts() {
		for _, rest := range []string{"", " ", " y", " 7 # x", "\n", "\n\"", "\nremove a \"x\"", "\n7"} {
			refuses(t, x+rest, "200 at 0")
			refuses(t, "# x\n\t"+x+rest, "200 at 5")
			refuses(t, "remove "+x+rest, "200 at 7")
			refuses(t, "remove"+x+rest, "200 at 6")
			refuses(t, "remove a "+x+rest, "200 at 9")
			refuses(t, `rename a "x"`+x+rest, "200 at 12")
			refuses(t, `mkdir a "x" `+x+rest, "200 at 12")
			refuses(t, "do "+x+rest, "200 at 3")
			refuses(t, "do 1 "+x+rest, "200 at 5")
			refuses(t, "cancel "+x+rest, "200 at 7")
			refuses(t, "fall "+x+rest, "200 at 5")
			refuses(t, "fall 1 2 3 "+x+rest, "200 at 11")
			refuses(t, "fall 1 2 3 keep "+x+rest, "200 at 16")
			refuses(t, "fall 1 2 3 keep a "+x+rest, "200 at 18")
			refuses(t, "fall 1 2 3 keep a 1 "+x+rest, "200 at 20")
			refuses(t, "rig a 1 2 3 "+x+rest, "200 at 12")
			refuses(t, "repeat "+x+rest, "200 at 7")
			refuses(t, "repeat 2 "+x+rest, "200 at 9")
			refuses(t, "repeat 2\nend "+x+rest, "200 at 13")
		}
		reads(t, "tick 1 # "+x, tick(1))
		reads(t, "#"+x+"\ntick 1", tick(1))
		_, fault := setupOf(t, "bytes "+x)
		want(t, "a setup with "+x, fault, "200 at 6")
		_, fault = setupOf(t, x+"\nbytes")
		want(t, "a setup with "+x, fault, "200 at 0")
		_, fault = setupOf(t, noCaps+x)
		want(t, "a setup with "+x, fault, "200 at 32")
	}
}

// Numbers that are none, and such that are.
func TestP20_3Numbers(t *testing.T) {
	for text, n := range map[string]int{
		"0": 0, "1": 1, "9": 9, "10": 10, "100": 100, "-1": -1, "-9": -9, "-10": -10, "12345": 12345, "999999999999": 999999999999, "1099511627775": 1<<40 - 1, "1099511627776": 1 << 40, "-1099511627775": 1 - 1<<40, "-1099511627776": -1 << 40,
	} {
		reads(t, `mkdir a "x" `+text, edit(0, api.Edit{Kind: api.EditMkdir, Path: "x", Mode: n}))
		reads(t, `chmod a "x" `+text+"#", edit(0, api.Edit{Kind: api.EditChmod, Path: "x", Mode: n}))
		reads(t, `file a "x" "" `+text, edit(0, api.Edit{Kind: api.EditFile, Path: "x", Mode: n}))
		reads(t, strings.ReplaceAll("fall x x x keep a x x keep s x", "x", text), api.Step{Kind: api.StepFall, Names: [3]int{n, n, n}, Keep: [3][]int{{n, n}, nil, {n}}})
		reads(t, strings.ReplaceAll("rig b x x x", "x", text), api.Step{Kind: api.StepRig, Volume: 1, A: n, B: n, C: n})
		s, fault := setupOf(t, "bytes 0 0 0 names 0 0 0 most "+text)
		want(t, "a setup with "+text, fault, "fine")
		want(t, "Most", s.Most, n)
	}
	for _, text := range []string{
		"-0", "-", "+", "+1", "+0", "00", "01", "007", "-01", "-00", "--1", "-+1", "+-1", "1-", "1-1", "- 1", "1_000", "0x1", "1e3", "1.0", ".5", "1,0", "0b1", "0o7", "1a", "a1", "x", "one", "keep", "\x001", "1\x00", "\r1", "1\r", "\xff", "١", "１", "𝟏", "1\u00a0", "\u22121", "\"1\"", "\"\"", "∞",
		"1099511627777", "-1099511627777", "9999999999999", "10000000000000", "2147483648000", "4294967296000000", "9223372036854775807", "9223372036854775808", "-9223372036854775808", "-9223372036854775809", "18446744073709551616", "18446744073709551617", "340282366920938463463374607431768211457", strings.Repeat("9", 1000), "1" + strings.Repeat("0", 5000), "-" + strings.Repeat("1", 300), strings.Repeat("0", 40), strings.Repeat("0", 40) + "1",
	} {
		refuses(t, `mkdir a "x" `+text, "201 at 12")
		refuses(t, `mkdir a "x" `+text+" y", "201 at 12")
		refuses(t, `chmod a "x" `+text, "201 at 12")
		refuses(t, `file a "x" "" `+text, "201 at 14")
		refuses(t, "do "+text, "201 at 3")
		refuses(t, "tick "+text, "201 at 5")
		refuses(t, "repeat "+text, "201 at 7")
		refuses(t, "fall "+text, "201 at 5")
		refuses(t, "fall 0 "+text, "201 at 7")
		refuses(t, "fall 0 0 "+text, "201 at 9")
		refuses(t, "rig a 1 "+text, "201 at 8")
		if text != "keep" {
			refuses(t, "fall 0 0 0 keep a "+text, "201 at 18")
			refuses(t, "fall 0 0 0 keep a 1 "+text, "201 at 20")
		}
		if len(text) < 1000 {
			_, fault := setupOf(t, "bytes "+text)
			want(t, "a setup with "+text, fault, "201 at 6")
			_, fault = setupOf(t, "bytes 0 0 0 names 0 0 0 most "+text)
			want(t, "a setup with "+text, fault, "201 at 29")
		}
	}
}

// Where something is wanted and nothing stands: the line's end, behind blanks and a comment.
func TestP20_3Ends(t *testing.T) {
	for _, rest := range []string{"", " ", "\t\t", "#", " # x \"", "\t#\xff"} {
		for _, line := range []string{"do", "tick", "repeat", "begin", "show", "settle", "mkdir", "mkdir a", `mkdir a "x"`, "fall", "fall 1", "fall 1 2", "fall 1 2 3 keep", "fall 1 2 3 keep a 1 keep", "rig s", "rig s 1 2", `file a "x" "y"`} {
			n := len(line) + len(rest)
			refuses(t, line+rest, fmt.Sprint("204 at ", n))
			refuses(t, line+rest+"\n", fmt.Sprint("204 at ", n))
			refuses(t, line+rest+"\n1 \"x\"\nend", fmt.Sprint("204 at ", n))
			refuses(t, "tick 1\n\n"+line+rest+"\n\n\n", fmt.Sprint("204 at ", n+8))
		}
	}
}
