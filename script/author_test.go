package script

import (
	"fmt"
	"math/rand"
	"strings"

	"twine/api"
)

// This file: who makes up steps, setups and texts, by chance.

type author struct{ *rand.Rand }

func authorOf(seed int) author { return author{rand.New(rand.NewSource(int64(seed)))} }

func (u author) of(l ...string) string { return l[u.Intn(len(l))] }

// rarely: once in n times.
func (u author) rarely(n int) bool { return u.Intn(n) == 0 }

// bytes: some of all bytes.
func (u author) bytes(most int) string {
	b := make([]byte, u.Intn(most+1))
	for i := range b {
		b[i] = byte(u.Intn(256))
		if u.rarely(3) {
			b[i] = "\"\\x#\n \t0aF"[u.Intn(10)]
		}
	}
	return string(b)
}

func (u author) number() int {
	switch u.Intn(6) {
	case 0:
		return u.Intn(3) - 1
	case 1:
		return (1<<40 - u.Intn(2)) * (1 - 2*u.Intn(2))
	case 2:
		return u.Intn(1<<40) - 1<<39
	}
	return u.Intn(2000) - 500
}

func (u author) numbers() []int {
	var l []int
	for range u.Intn(4) {
		l = append(l, u.number())
	}
	return l
}

// path: a few that meet one another.
func (u author) path() string {
	p := u.of("a", "b", "c", "x.o")
	for u.rarely(3) {
		p += "/" + u.of("a", "b", "c", "x.o")
	}
	return p
}

// value: of a place of a row; anything, or such as a world may take.
func (u author) value(place, field string, wild bool) any {
	switch place {
	case "V":
		return u.Intn(3)
	case "TEXT":
		if wild {
			return u.bytes(9)
		}
		switch field {
		case "Edit.Data":
			return u.of("", "p", "q", "rr", strings.Repeat("w", 600))
		case "Rules":
			return u.of("", "", "skip *.o", "prefer a **", "prefer b a\nskip c")
		}
		return u.path()
	case "N":
		if !wild {
			return u.Intn(8)
		}
		return u.number()
	case "FEW":
		if !wild {
			return u.Intn(12)
		}
		return []int{0, 1, 1000, u.Intn(1001)}[u.Intn(4)]
	case "KEEPS":
		return [3][]int{u.numbers(), u.numbers(), u.numbers()}
	}
	return u.rarely(2)
}

func (u author) step(row plainRow, wild bool) api.Step {
	s := api.Step{Kind: row.kind, Edit: api.Edit{Kind: row.edit}}
	fields := strings.Fields(row.fields)
	for i, place := range strings.Fields(row.line)[1:] {
		set(&s, fields[i], u.value(place, fields[i], wild))
	}
	return s
}

// steps: such as have a text.
func (u author) steps(most int, wild bool) []api.Step {
	table := plainTable()
	var l []api.Step
	for range u.Intn(most + 1) {
		l = append(l, u.step(table[u.Intn(len(table))], wild))
	}
	return l
}

// gap: blanks and tabs.
func (u author) gap() string { return u.of(" ", " ", "  ", "\t", " \t ") }

// idle: what a line may end with, and lines without words.
func (u author) idle() string {
	s := u.of("", "", " ", "\t", "#", " # x", "# tick 1 \"", "#\r\xff", "\t#end")
	for u.rarely(4) {
		s += "\n" + u.of("", " ", "\t", "#", "# repeat 2", " #\"")
	}
	return s
}

// spread: a line, with other blanks, and with what is passed over.
func (u author) spread(line string) string {
	out := u.of("", "", u.gap())
	for i, x := range plainItems(line, 0) {
		if i > 0 && !(u.rarely(3) && (x.text[0] == '"' || strings.HasSuffix(out, `"`))) {
			out += u.gap()
		}
		out += x.text
	}
	return out + u.idle()
}

// written: a text of steps, with repeats where the same come again and by chance, and as it is written out.
func (u author) written(l []api.Step) (text, out string) {
	for len(l) > 0 {
		n := min(1+u.Intn(4), len(l))
		times := 1 + u.Intn(3)
		body, plain := "", ""
		for _, s := range l[:n] {
			body += u.spread(strings.TrimSuffix(plainLine(s), "\n")) + "\n"
			plain += plainLine(s)
		}
		if u.rarely(3) {
			body, plain = u.spread(fmt.Sprint("repeat ", times))+"\n"+body+u.spread("end")+"\n", strings.Repeat(plain, times)
		}
		text, out, l = text+body, out+plain, l[n:]
	}
	if u.rarely(2) {
		text = strings.TrimSuffix(text, "\n")
	}
	return text, out
}

// piece: what stands in scripts, right and wrong.
func (u author) piece() string {
	switch u.Intn(4) {
	case 0:
		return u.of("a", "b", "s", "keep", "reading", "0", "1", "2", "-1", "1000")
	case 1:
		return u.of(`"x"`, `""`, `"\x00"`, `"a b"`, `"\"\\"`, `"#"`)
	case 2:
		return strings.Fields(plainTable()[u.Intn(21)].line)[0]
	}
	return u.of("repeat", "end", "repeat 2", "end", "01", "1001", "-0", "1099511627777", `"`, `"\n"`, `"\xAA"`, "c", "A", "x", "\r", "\xff", "é", "#", "# x", "most", "names", "bytes")
}

// scrap: a text of pieces, hardly ever a right one.
func (u author) scrap() string {
	var b strings.Builder
	for range u.Intn(12) {
		b.WriteString(u.piece() + u.of(" ", " ", " ", "\n", "", "\t"))
	}
	return b.String()
}

// blemish: a text with something else at some place.
func (u author) blemish(text string) string {
	i := u.Intn(len(text) + 1)
	j := min(len(text), i+u.Intn(3))
	return text[:i] + u.of("", " ", "\n", "\"", "#", "x", "0", "-", "\\", "end\n", "repeat 2\n", "\x00", "\xff", u.piece()) + text[j:]
}
