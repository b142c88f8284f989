package script

import (
	"iter"
	"strings"
)

// Kinds of what stands in a line.
const (
	bare   = iota
	quoted // a quoted text
	broken // a quoted text that can't stand anywhere
)

// word: something that stands in a line. text: of a quoted text what it says.
type word struct {
	at, kind int
	text     string
}

func (w word) is(text string) bool { return w.kind == bare && w.text == text }

// lines gives a text's lines, each with the place of its first byte.
func lines(text string) iter.Seq2[int, string] {
	return func(yield func(int, string) bool) {
		at := 0
		for _, line := range strings.Split(text, "\n") {
			if !yield(at, line) {
				return
			}
			at += len(line) + 1
		}
	}
}

// Where a cutter stands.
const (
	between = iota // words
	inBare
	inQuoted
	inEscape // behind its backslash
	inHigh   // ahead of the first digit
	inLow    // ahead of the second one
	passing  // the rest of the line is passed over
)

// cutter goes through a line, rune by rune.
type cutter struct {
	line  string
	start int // the place of the line's first byte
	words []word
	state int
	from  int    // where in the line the word began that is under way
	says  []byte // of a quoted text that is under way, as far as it is read
}

// cut tells what stands in a line, whose first byte is at a place of the text. Behind a broken text nothing is told: nothing behind it is ever asked for.
func cut(line string, at int) []word {
	c := cutter{line: line, start: at}
	for i, r := range line {
		if c.state == passing {
			break
		}
		c.next(i, r)
	}
	c.close()
	return c.words
}

func (c *cutter) next(i int, r rune) {
	switch c.state {
	case inQuoted:
		c.nextQuoted(r)
	case inEscape:
		c.nextEscape(r)
	case inHigh, inLow:
		c.nextDigit(r)
	default:
		c.nextBare(i, r)
	}
}

func (c *cutter) nextBare(i int, r rune) {
	switch {
	case r == ' ' || r == '\t':
		c.leave(i, between)
	case r == '#':
		c.leave(i, passing)
	case r == '"':
		c.leave(i, inQuoted)
		c.from, c.says = i, nil
	case c.state == between:
		c.from, c.state = i, inBare
	}
}

// leave ends the bare word that is under way, if one is.
func (c *cutter) leave(i, state int) {
	if c.state == inBare {
		c.lay(bare, c.line[c.from:i], state)
	}
	c.state = state
}

func (c *cutter) nextQuoted(r rune) {
	switch {
	case r == '"':
		c.lay(quoted, string(c.says), between)
	case r == '\\':
		c.state = inEscape
	case r < 0x20 || r > 0x7e:
		c.spoil()
	default:
		c.say(byte(r))
	}
}

func (c *cutter) nextEscape(r rune) {
	switch r {
	case '"', '\\':
		c.say(byte(r))
	case 'x':
		c.say(0)
		c.state = inHigh
	default:
		c.spoil()
	}
}

// nextDigit reckons with the byte that the escape has laid.
func (c *cutter) nextDigit(r rune) {
	n, ok := digit(r)
	if !ok {
		c.spoil()
		return
	}
	last := len(c.says) - 1
	c.says[last] = c.says[last]<<4 | n
	if c.state == inHigh {
		c.state = inLow
	} else {
		c.state = inQuoted
	}
}

func (c *cutter) say(b byte) {
	c.says = append(c.says, b)
	c.state = inQuoted
}

func (c *cutter) spoil() { c.lay(broken, "", passing) }

func (c *cutter) lay(kind int, text string, state int) {
	c.words = append(c.words, word{at: c.start + c.from, kind: kind, text: text})
	c.state = state
}

// close ends what is under way at the line's end.
func (c *cutter) close() {
	switch c.state {
	case inBare:
		c.leave(len(c.line), between)
	case inQuoted, inEscape, inHigh, inLow:
		c.spoil()
	}
}

func digit(r rune) (byte, bool) {
	switch {
	case '0' <= r && r <= '9':
		return byte(r - '0'), true
	case 'a' <= r && r <= 'f':
		return byte(r-'a') + 10, true
	}
	return 0, false
}
