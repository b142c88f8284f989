package script

import (
	"testing"

	"twine/api"
)

const noCaps = "bytes 0 0 0 names 0 0 0 most 100"

func TestP20_Example1(t *testing.T) {
	text := "file a \"f\" \"abc\\x00\" 6   # a file\nrepeat 2\ntick 1\nend\nbegin \"skip *.o\"\nfinish\nfall 0 2 -1 keep b 5 7\n"
	l := []api.Step{
		{Kind: api.StepEdit, Volume: api.A, Edit: api.Edit{Kind: api.EditFile, Path: "f", Data: []byte("abc\x00"), Mode: 6}},
		{Kind: api.StepTick, A: 1},
		{Kind: api.StepTick, A: 1},
		{Kind: api.StepBegin, Rules: "skip *.o"},
		{Kind: api.StepEnd},
		{Kind: api.StepFall, Names: [3]int{0, 2, -1}, Keep: [3][]int{nil, {5, 7}, nil}},
	}
	reads(t, text, l...)
	got, fault := printOf(t, l)
	want(t, "fault", fault, "fine")
	want(t, "Print", got, "file a \"f\" \"abc\\x00\" 6\ntick 1\ntick 1\nbegin \"skip *.o\"\nfinish\nfall 0 2 -1 keep b 5 7\n")
}

func TestP20_Example2(t *testing.T) {
	for text, fault := range map[string]string{
		"do":                       "204 at 2",
		"do x":                     "201 at 3",
		"do 1001":                  "201 at 3",
		"do 1 2":                   "200 at 5",
		"show c":                   "200 at 5",
		"mkdir a b 7":              "200 at 8",
		"go":                       "200 at 0",
		"end":                      "200 at 0",
		"fall 1 2 3 4":             "200 at 11",
		"fall 1 2 3 keep a x":      "201 at 18",
		"fall 1 2 3 keep b keep a": "200 at 23",
		"\nrepeat 2":               "204 at 9",
	} {
		refuses(t, text, fault)
	}
	reads(t, "")
}

func TestP20_Example3(t *testing.T) {
	s, fault := setupOf(t, noCaps)
	want(t, "fault", fault, "fine")
	want(t, "the setup", s, api.Setup{Most: 100})
	_, fault = setupOf(t, "")
	want(t, "of the empty text", fault, "204 at 0")
	_, fault = setupOf(t, "bytes -1")
	want(t, "of a number below 0", fault, "201 at 6")
}

func TestP20_Example4(t *testing.T) {
	told := playOf(t, noCaps, "tick 2\ncancel\nmkdir a \"d\" 5\nmkdir a \"d\" 5\nshow a")
	want(t, "Play", told, "ticked\nrefused err 191\nok\nrefused err 95\nthing \"\" dir 7 number 1 stamp 1\nthing \"d\" dir 5 number 4 stamp 3\n")
}
