package script

import (
	"strconv"
	"strings"

	"twine/api"
)

// The words of what is told, in the order of their numbers.
const (
	didWords   = "nothing begin load clean scan plan look overtaken stage put away failed sure save end bad fault" // from DidNothing on
	overWords  = "under end bad fault cancel"                                                                      // from OverNot on
	savedWords = "no perhaps yes"                                                                                  // from SavedNo on
	whatWords  = "agreed both carry conflict modes kept"                                                           // from Agreed on
	howWords   = "none put overtaken failed left weak"                                                             // from HowNone on
)

func nth(words string, n int) string { return strings.Fields(words)[n] }

// errorPart tells an error; nothing, if there is none.
func errorPart(e api.Errno) string {
	if e == api.OK {
		return ""
	}
	return " err " + strconv.Itoa(int(e))
}

func rulesLine(line int, e api.Errno) string { return "rules " + strconv.Itoa(line) + errorPart(e) }

func replyLine(r api.Reply) string {
	line := nth(didWords, r.Did) + errorPart(r.Err)
	if r.Path != "" {
		line += " at " + quote(r.Path)
	}
	if r.Item != 0 {
		line += " item " + strconv.Itoa(r.Item)
	}
	return line
}

func thingLine(t api.Thing) string {
	return "thing " + quote(t.Path) + contentPart(t) + " number " + strconv.Itoa(t.Number) + " stamp " + strconv.Itoa(t.Stamp)
}

func contentPart(t api.Thing) string {
	switch t.Kind {
	case api.Dir:
		return " dir " + strconv.Itoa(t.Mode)
	case api.File:
		return " file " + strconv.Itoa(t.Mode) + " " + quote(string(t.Data)) + " sure " + strconv.Itoa(t.Sure)
	}
	return " link " + quote(string(t.Data))
}

func reportLine(r api.Report) string {
	line := "report " + nth(overWords, r.Over) + " " + nth(savedWords, r.Saved) + errorPart(r.Err)
	if r.Forgot {
		line += " forgot"
	}
	return line
}

func entryLine(e api.Entry) string {
	return "entry " + quote(e.Path) + " " + nth(whatWords, e.What-api.Agreed) + sidePart(e.Side) + " " + nth(howWords, e.How)
}

// sidePart tells a side; nothing, if there is none.
func sidePart(side int) string {
	switch side {
	case api.SideA:
		return " a"
	case api.SideB:
		return " b"
	}
	return ""
}
