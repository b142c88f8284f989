package script

import (
	"bytes"
	"slices"
	"strconv"
	"strings"

	"twine/api"
)

// lineOf tells the line of a step, its line feed too, if Parse reads it as just that step.
func lineOf(s api.Step) (string, bool) {
	f, ok := formOfKind(s.Kind, s.Edit.Kind)
	if !ok || weight(s) > api.MaxScript {
		return "", false
	}
	var line strings.Builder
	line.WriteString(f.word)
	for _, place := range f.places {
		write(&line, s, place)
	}
	line.WriteByte('\n')
	back, err := Parse(line.String())
	return line.String(), err == nil && same(back[0], s)
}

// weight tells how many bytes a step's text has at least, so that none is written that is far too long.
func weight(s api.Step) int {
	n := len(s.Edit.Path) + len(s.Edit.To) + len(s.Edit.Data) + len(s.Rules)
	for _, l := range s.Keep {
		n += len(l)
	}
	return n
}

// same tells whether two steps are: a nil list and an empty one are.
func same(x, y api.Step) bool {
	for v := range x.Keep {
		if !slices.Equal(x.Keep[v], y.Keep[v]) {
			return false
		}
	}
	return x.Kind == y.Kind && x.Volume == y.Volume && x.A == y.A && x.B == y.B && x.C == y.C &&
		x.Reading == y.Reading && x.Rules == y.Rules && x.Names == y.Names && sameEdit(x.Edit, y.Edit)
}

func sameEdit(x, y api.Edit) bool {
	return x.Kind == y.Kind && x.Path == y.Path && x.To == y.To && bytes.Equal(x.Data, y.Data) && x.Mode == y.Mode
}

// write writes what stands at a place, a blank ahead of it.
func write(line *strings.Builder, s api.Step, place rune) {
	switch place {
	case 'v':
		writeWord(line, volumeWord(s.Volume))
	case 'p':
		writeWord(line, quote(s.Edit.Path))
	case 't':
		writeWord(line, quote(s.Edit.To))
	case 'd':
		writeWord(line, quote(string(s.Edit.Data)))
	case 'm':
		writeNumbers(line, s.Edit.Mode)
	case 'r':
		writeWord(line, quote(s.Rules))
	case 'o', 'a':
		writeNumbers(line, s.A)
	case 'b':
		writeNumbers(line, s.B)
	case 'c':
		writeNumbers(line, s.C)
	case 'n':
		writeNumbers(line, s.Names[:]...)
	case 'k':
		writeKeeps(line, s.Keep)
	case 'w':
		if s.Reading {
			writeWord(line, "reading")
		}
	}
}

func writeWord(line *strings.Builder, word string) {
	line.WriteByte(' ')
	line.WriteString(word)
}

func writeNumbers(line *strings.Builder, l ...int) {
	for _, n := range l {
		writeWord(line, strconv.Itoa(n))
	}
}

func writeKeeps(line *strings.Builder, keep [3][]int) {
	for v, l := range keep {
		if len(l) > 0 {
			writeWord(line, "keep")
			writeWord(line, volumeWord(v))
			writeNumbers(line, l...)
		}
	}
}

// quote writes a quoted text. It goes byte by byte: what isn't a rune is written, too.
func quote(text string) string {
	const digits = "0123456789abcdef"
	out := []byte{'"'}
	for _, b := range []byte(text) {
		switch {
		case b == '"' || b == '\\':
			out = append(out, '\\', b)
		case b < 0x20 || b > 0x7e:
			out = append(out, '\\', 'x', digits[b>>4], digits[b&15])
		default:
			out = append(out, b)
		}
	}
	return string(append(out, '"'))
}
