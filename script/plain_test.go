package script

import (
	"errors"
	"fmt"
	"math/big"
	"reflect"
	"regexp"
	"slices"
	"strconv"
	"strings"
	"testing"

	"twine/api"
	"twine/rules"
	"twine/run"
	"twine/world"
)

// This file: setups, scripts, their texts and what is played, written down plainly: the chapter's table as it stands there, patterns for what stands in a line, a panic for a fault.

const (
	maxSetup   = 2000
	maxScript  = 65536
	maxSteps   = 4000
	maxContent = 4194304
	maxPlay    = 4194304
	maxNames   = 2097152
)

func want[T comparable](t testing.TB, what string, got, wanted T) {
	t.Helper()
	if got != wanted {
		t.Fatalf("%s: got %v, want %v", what, got, wanted)
	}
}

// place tells an error: its place and its number.
func place(err error) string {
	if err == nil {
		return "fine"
	}
	var f *api.Fault
	if !errors.As(err, &f) || error(f) != err || f.Path != "" {
		return fmt.Sprintf("no fault: %#v", err)
	}
	return fmt.Sprintf("%d at %d", f.Err, f.At)
}

// short: a text, not too much of it.
func short(text string) string {
	if len(text) > 300 {
		return fmt.Sprintf("%q .. %q (%d bytes)", text[:150], text[len(text)-100:], len(text))
	}
	return fmt.Sprintf("%q", text)
}

// plainItem: something that stands in a line, as it is written.
type plainItem struct {
	at   int
	text string
}

var (
	anItem    = regexp.MustCompile(`(?s)^(?:[ \t]+|#.*|"(?:[^"\\]|\\.)*"|".*|[^ \t#"]+)`)
	aText     = regexp.MustCompile(`^"(?:[ !#-\[\]-~]|\\["\\]|\\x[0-9a-f][0-9a-f])*"$`)
	aNumber   = regexp.MustCompile(`^(?:0|-?[1-9][0-9]*)$`)
	isNothing = regexp.MustCompile(`^[ \t#]`)
)

func plainItems(line string, at int) []plainItem {
	var l []plainItem
	for line != "" {
		x := anItem.FindString(line)
		if !isNothing.MatchString(x) {
			l = append(l, plainItem{at, x})
		}
		at += len(x)
		line = line[len(x):]
	}
	return l
}

// plainReader: what stands in a line, and where the line ends. Its parts panic with a fault.
type plainReader struct {
	items []plainItem
	end   int
}

func plainFault(at int, e api.Errno) { panic(&api.Fault{At: at, Err: e}) }

func (r *plainReader) take() plainItem {
	if len(r.items) == 0 {
		plainFault(r.end, api.ErrScriptEnd)
	}
	x := r.items[0]
	r.items = r.items[1:]
	if x.text[0] == '"' && !aText.MatchString(x.text) {
		plainFault(x.at, api.ErrScriptWord)
	}
	return x
}

func (r *plainReader) word(words ...string) int {
	x := r.take()
	i := slices.Index(words, x.text)
	if i < 0 {
		plainFault(x.at, api.ErrScriptWord)
	}
	return i
}

func (r *plainReader) text() string {
	x := r.take()
	s, err := strconv.Unquote(x.text)
	if x.text[0] != '"' || err != nil {
		plainFault(x.at, api.ErrScriptWord)
	}
	return s
}

func (r *plainReader) number(low, high int) int {
	x := r.take()
	n, _ := new(big.Int).SetString(x.text, 10)
	if !aNumber.MatchString(x.text) || n.CmpAbs(big.NewInt(1<<40)) > 0 || n.Int64() < int64(low) || n.Int64() > int64(high) {
		plainFault(x.at, api.ErrScriptNumber)
	}
	return int(n.Int64())
}

func (r *plainReader) nothing() {
	if len(r.items) > 0 {
		plainFault(r.items[0].at, api.ErrScriptWord)
	}
}

const anyNumber = 1 << 40

// caught tells the fault with which f panics.
func caught(f func()) (err error) {
	defer func() {
		if x := recover(); x != nil {
			err = x.(*api.Fault)
		}
	}()
	f()
	return nil
}

func plainSetup(text string) (s api.Setup, err error) {
	err = caught(func() {
		if len(text) > maxSetup {
			plainFault(0, api.ErrScriptLong)
		}
		r := &plainReader{end: len(text)}
		at := 0
		for _, line := range strings.Split(text, "\n") {
			r.items = append(r.items, plainItems(line, at)...)
			at += len(line) + 1
		}
		r.word("bytes")
		for i := range 3 {
			s.Caps.Bytes[i] = r.number(0, anyNumber)
		}
		r.word("names")
		for i := range 3 {
			s.Caps.Names[i] = r.number(0, maxNames)
		}
		r.word("most")
		s.Most = r.number(-anyNumber, anyNumber)
		r.nothing()
	})
	if err != nil {
		s = api.Setup{}
	}
	return s, err
}

// plainRow: a row of the chapter's table, with the names of the fields that it fills in, from the left.
type plainRow struct {
	line       string
	kind, edit int
	fields     string
}

func plainTable() []plainRow {
	return []plainRow{
		{"mkdir V TEXT N", api.StepEdit, api.EditMkdir, "Volume Edit.Path Edit.Mode"},
		{"file V TEXT TEXT N", api.StepEdit, api.EditFile, "Volume Edit.Path Edit.Data Edit.Mode"},
		{"link V TEXT TEXT", api.StepEdit, api.EditLink, "Volume Edit.Path Edit.To"},
		{"write V TEXT TEXT", api.StepEdit, api.EditWrite, "Volume Edit.Path Edit.Data"},
		{"append V TEXT TEXT", api.StepEdit, api.EditAppend, "Volume Edit.Path Edit.Data"},
		{"chmod V TEXT N", api.StepEdit, api.EditChmod, "Volume Edit.Path Edit.Mode"},
		{"rename V TEXT TEXT", api.StepEdit, api.EditRename, "Volume Edit.Path Edit.To"},
		{"exchange V TEXT TEXT", api.StepEdit, api.EditExchange, "Volume Edit.Path Edit.To"},
		{"remove V TEXT", api.StepEdit, api.EditRemove, "Volume Edit.Path"},
		{"sync V TEXT", api.StepEdit, api.EditSync, "Volume Edit.Path"},
		{"settle V", api.StepEdit, api.EditSettle, "Volume"},
		{"begin TEXT", api.StepBegin, 0, "Rules"},
		{"do FEW", api.StepDo, 0, "A"},
		{"finish", api.StepEnd, 0, ""},
		{"tick FEW", api.StepTick, 0, "A"},
		{"fall N N N KEEPS", api.StepFall, 0, "Names.0 Names.1 Names.2 Keep"},
		{"rig V N N N READING", api.StepRig, 0, "Volume A B C Reading"},
		{"cancel", api.StepCancel, 0, ""},
		{"forget", api.StepForget, 0, ""},
		{"report", api.StepReport, 0, ""},
		{"show V", api.StepShow, 0, "Volume"},
	}
}

// rowOf: the row whose line begins with a word.
func rowOf(word string) (plainRow, bool) {
	for _, x := range plainTable() {
		if strings.Fields(x.line)[0] == word {
			return x, true
		}
	}
	return plainRow{}, false
}

// set sets a field of a step, by its name.
func set(s *api.Step, field string, value any) {
	at := reflect.ValueOf(s).Elem()
	for part := range strings.SplitSeq(field, ".") {
		if n, err := strconv.Atoi(part); err == nil {
			at = at.Index(n)
		} else {
			at = at.FieldByName(part)
		}
	}
	at.Set(reflect.ValueOf(value).Convert(at.Type()))
}

// value reads what a place of a row wants.
func (r *plainReader) value(place string) any {
	switch place {
	case "V":
		return r.word("a", "b", "s")
	case "TEXT":
		return r.text()
	case "N":
		return r.number(-anyNumber, anyNumber)
	case "FEW":
		return r.number(0, 1000)
	case "KEEPS":
		return r.keeps()
	}
	if len(r.items) > 0 {
		return r.word("reading") == 0
	}
	return false
}

func (r *plainReader) keeps() (keep [3][]int) {
	left := []string{"a", "b", "s"}
	for len(r.items) > 0 {
		r.word("keep")
		left = left[r.word(left...):]
		v := strings.Index("abs", left[0])
		left = left[1:]
		for len(r.items) > 0 && r.items[0].text != "keep" {
			keep[v] = append(keep[v], r.number(-anyNumber, anyNumber))
		}
	}
	return keep
}

func (r *plainReader) step(row plainRow) api.Step {
	s := api.Step{Kind: row.kind, Edit: api.Edit{Kind: row.edit}}
	fields := strings.Fields(row.fields)
	for i, place := range strings.Fields(row.line)[1:] {
		set(&s, fields[i], r.value(place))
	}
	r.nothing()
	return s
}

func contentOf(l []api.Step) (n int) {
	for _, s := range l {
		n += len(s.Edit.Data)
	}
	return n
}

// plainBook: the steps ahead of the repeat, its body, and how often it is done (0: there is no repeat).
type plainBook struct {
	ahead, body []api.Step
	times       int
}

// line reads a line, of which something is left.
func (b *plainBook) line(r *plainReader) {
	first := r.items[0].at
	word := r.take().text
	row, isStep := rowOf(word)
	switch {
	case word == "repeat" && b.times == 0:
		b.times = r.number(1, 1000)
		r.nothing()
	case word == "end" && b.times > 0:
		if len(b.ahead)+b.times*len(b.body) > maxSteps {
			plainFault(first, api.ErrScriptMany)
		}
		if contentOf(b.ahead)+b.times*contentOf(b.body) > maxContent {
			plainFault(first, api.ErrScriptLong)
		}
		r.nothing()
		for range b.times {
			b.ahead = append(b.ahead, b.body...)
		}
		b.body, b.times = nil, 0
	case !isStep:
		plainFault(first, api.ErrScriptWord)
	default:
		if len(b.ahead)+len(b.body)+1 > maxSteps {
			plainFault(first, api.ErrScriptMany)
		}
		s := r.step(row)
		if contentOf(b.ahead)+contentOf(b.body)+len(s.Edit.Data) > maxContent {
			plainFault(first, api.ErrScriptLong)
		}
		if b.times > 0 {
			b.body = append(b.body, s)
		} else {
			b.ahead = append(b.ahead, s)
		}
	}
}

func plainParse(text string) ([]api.Step, error) {
	var b plainBook
	err := caught(func() {
		if len(text) > maxScript {
			plainFault(0, api.ErrScriptLong)
		}
		at := 0
		for _, line := range strings.Split(text, "\n") {
			if l := plainItems(line, at); len(l) > 0 {
				b.line(&plainReader{l, at + len(line)})
			}
			at += len(line) + 1
		}
		if b.times > 0 {
			plainFault(len(text), api.ErrScriptEnd)
		}
	})
	if err != nil {
		return nil, err
	}
	return b.ahead, nil
}

// alike: two lists of steps, a nil list of theirs being an empty one.
func alike(x, y []api.Step) bool {
	if len(x) != len(y) {
		return false
	}
	for i := range x {
		if !reflect.DeepEqual(emptied(x[i]), emptied(y[i])) {
			return false
		}
	}
	return true
}

// emptied: a step without lists that are nil.
func emptied(s api.Step) api.Step {
	s.Edit.Data = append([]byte{}, s.Edit.Data...)
	for v := range s.Keep {
		s.Keep[v] = append([]int{}, s.Keep[v]...)
	}
	return s
}

// plainQuote: a quoted text.
func plainQuote(text string) string {
	var b strings.Builder
	for i := range len(text) {
		switch c := text[i]; {
		case c == '"', c == '\\':
			b.WriteString("\\" + string(rune(c)))
		case c >= ' ' && c <= '~':
			b.WriteByte(c)
		default:
			fmt.Fprintf(&b, "\\x%02x", c)
		}
	}
	return `"` + b.String() + `"`
}

// plainLine: a step's line, whatever its fields hold.
func plainLine(s api.Step) string {
	e, v := s.Edit, fmt.Sprint("?", s.Volume)
	if s.Volume >= 0 && s.Volume < 3 {
		v = "abs"[s.Volume : s.Volume+1]
	}
	p, to, data := plainQuote(e.Path), plainQuote(e.To), plainQuote(string(e.Data))
	switch s.Kind {
	case api.StepEdit:
		switch e.Kind {
		case api.EditMkdir:
			return fmt.Sprintln("mkdir", v, p, e.Mode)
		case api.EditFile:
			return fmt.Sprintln("file", v, p, data, e.Mode)
		case api.EditLink:
			return fmt.Sprintln("link", v, p, to)
		case api.EditWrite:
			return fmt.Sprintln("write", v, p, data)
		case api.EditAppend:
			return fmt.Sprintln("append", v, p, data)
		case api.EditChmod:
			return fmt.Sprintln("chmod", v, p, e.Mode)
		case api.EditRename:
			return fmt.Sprintln("rename", v, p, to)
		case api.EditExchange:
			return fmt.Sprintln("exchange", v, p, to)
		case api.EditRemove:
			return fmt.Sprintln("remove", v, p)
		case api.EditSync:
			return fmt.Sprintln("sync", v, p)
		case api.EditSettle:
			return fmt.Sprintln("settle", v)
		}
	case api.StepBegin:
		return fmt.Sprintln("begin", plainQuote(s.Rules))
	case api.StepDo:
		return fmt.Sprintln("do", s.A)
	case api.StepEnd:
		return "finish\n"
	case api.StepTick:
		return fmt.Sprintln("tick", s.A)
	case api.StepFall:
		return plainFall(s)
	case api.StepRig:
		if s.Reading {
			return fmt.Sprintln("rig", v, s.A, s.B, s.C, "reading")
		}
		return fmt.Sprintln("rig", v, s.A, s.B, s.C)
	case api.StepCancel:
		return "cancel\n"
	case api.StepForget:
		return "forget\n"
	case api.StepReport:
		return "report\n"
	case api.StepShow:
		return fmt.Sprintln("show", v)
	}
	return "no step\n"
}

func plainFall(s api.Step) string {
	line := fmt.Sprint("fall ", s.Names[0], " ", s.Names[1], " ", s.Names[2])
	for v, l := range s.Keep {
		if len(l) > 0 {
			line += fmt.Sprint(" keep ", "abs"[v:v+1])
		}
		for _, n := range l {
			line += fmt.Sprint(" ", n)
		}
	}
	return line + "\n"
}

// plainPrint: the text of steps, or the number of the first one up to which they have none: the plain reader reads it as others. (It asks each first part, so it is slow.)
func plainPrint(l []api.Step) (string, error) {
	text := ""
	for i, s := range l {
		text += plainLine(s)
		if back, err := plainParse(text); err != nil || !alike(back, l[:i+1]) {
			return "", &api.Fault{At: i, Err: api.ErrScriptPrint}
		}
	}
	return text, nil
}

// plainPlay: what a world and a run answer to steps, a line each.
func plainPlay(s api.Setup, l []api.Step) []string {
	w, _ := world.New(s.Caps, 1, [3][]api.Thing{})
	x := run.New(w, s.Most)
	var out []string
	lay := func(parts ...any) { out = append(out, strings.TrimSuffix(fmt.Sprintln(parts...), "\n")) }
	refused := func(word string, e api.Errno) {
		if e != api.OK {
			lay("refused", "err", int(e))
		} else {
			lay(word)
		}
	}
	for _, s := range l {
		switch s.Kind {
		case api.StepEdit:
			refused("ok", w.Edit(s.Volume, s.Edit))
		case api.StepBegin:
			if r, n, e := rules.Parse(s.Rules); e != api.OK {
				lay("rules", n, "err", int(e))
			} else {
				refused("begun", x.Begin(r))
			}
		case api.StepDo:
			for range s.A {
				lay(plainReply(x.Do()))
			}
		case api.StepEnd:
			for x.Status().Phase != api.DidNothing {
				lay(plainReply(x.Do()))
			}
		case api.StepTick:
			for range s.A {
				w.Tick()
			}
			lay("ticked")
		case api.StepFall:
			w.Fall(s.Names, s.Keep)
			lay("fell")
		case api.StepRig:
			w.Rig(s.Volume, s.A, s.B, s.C, s.Reading)
			lay("rigged")
		case api.StepCancel:
			refused("cancelled", x.Cancel())
		case api.StepForget:
			refused("forgotten", x.Forget())
		case api.StepShow:
			for _, y := range w.Image(s.Volume) {
				lay(plainThing(y))
			}
		case api.StepReport:
			out = append(out, plainReport(x.Report())...)
		}
	}
	return out
}

func plainReply(r api.Reply) string {
	line := [...]string{"nothing", "begin", "load", "clean", "scan", "plan", "look", "overtaken", "stage", "put", "away", "failed", "sure", "save", "end", "bad", "fault"}[r.Did]
	if r.Err != api.OK {
		line += fmt.Sprint(" err ", int(r.Err))
	}
	if r.Path != "" {
		line += " at " + plainQuote(r.Path)
	}
	if r.Item != 0 {
		line += fmt.Sprint(" item ", r.Item)
	}
	return line
}

func plainThing(y api.Thing) string {
	is := fmt.Sprint("dir ", y.Mode)
	if y.Kind == api.File {
		is = fmt.Sprint("file ", y.Mode, " ", plainQuote(string(y.Data)), " sure ", y.Sure)
	}
	if y.Kind == api.Link {
		is = "link " + plainQuote(string(y.Data))
	}
	return fmt.Sprintf("thing %s %s number %d stamp %d", plainQuote(y.Path), is, y.Number, y.Stamp)
}

func plainReport(r api.Report) []string {
	line := "report " + [...]string{"under", "end", "bad", "fault", "cancel"}[r.Over] + " " + [...]string{"no", "perhaps", "yes"}[r.Saved]
	if r.Err != api.OK {
		line += fmt.Sprint(" err ", int(r.Err))
	}
	if r.Forgot {
		line += " forgot"
	}
	l := []string{line}
	for _, y := range r.Entries {
		line := "entry " + plainQuote(y.Path) + " " + [...]string{"", "agreed", "both", "carry", "conflict", "modes", "kept"}[y.What]
		line += [...]string{"", " a", " b"}[y.Side]
		l = append(l, line+" "+[...]string{"none", "put", "overtaken", "failed", "left", "weak"}[y.How])
	}
	return l
}

// plainCut: lines, of which those stay that make no more than MaxPlay bytes.
func plainCut(l []string) string {
	var b strings.Builder
	for _, line := range l {
		if b.Len()+len(line)+1 > maxPlay {
			return b.String() + "more\n"
		}
		b.WriteString(line + "\n")
	}
	return b.String()
}
