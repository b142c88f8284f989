package script

import (
	"errors"
	"strconv"

	"twine/api"
)

const (
	maxNumber = 1 << 40
	maxOften  = 1000 // of do, tick and repeat
)

func fault(at int, e api.Errno) error { return &api.Fault{At: at, Err: e} }

// placed tells a bare number at a place; a fault that comes from within has its place.
func placed(err error, at int) error {
	var f *api.Fault
	if errors.As(err, &f) {
		return f
	}
	var e api.Errno
	errors.As(err, &e) // there are no others
	return fault(at, e)
}

// cursor: what is left of a line, or of a setup's lines.
type cursor struct {
	words []word
	end   int // where it is told that something is missing
}

func (c *cursor) hasMore() bool { return len(c.words) > 0 }

// isAt tells whether a certain word stands there.
func (c *cursor) isAt(text string) bool {
	return c.hasMore() && c.words[0].is(text)
}

// take takes what stands there, where something is wanted.
func (c *cursor) take() (word, error) {
	if !c.hasMore() {
		return word{}, fault(c.end, api.ErrScriptEnd)
	}
	w := c.words[0]
	c.words = c.words[1:]
	if w.kind == broken {
		return word{}, fault(w.at, api.ErrScriptWord)
	}
	return w, nil
}

// rest refuses what stands there, where nothing may.
func (c *cursor) rest() error {
	if c.hasMore() {
		return fault(c.words[0].at, api.ErrScriptWord)
	}
	return nil
}

// word wants a certain word.
func (c *cursor) word(wanted string) error {
	w, err := c.take()
	if err != nil {
		return err
	}
	if !w.is(wanted) {
		return fault(w.at, api.ErrScriptWord)
	}
	return nil
}

// volume wants the word of a volume, of one from a number on.
func (c *cursor) volume(from int) (int, error) {
	w, err := c.take()
	if err != nil {
		return 0, err
	}
	for v := from; v <= api.S; v++ {
		if w.is(volumeWord(v)) {
			return v, nil
		}
	}
	return 0, fault(w.at, api.ErrScriptWord)
}

func (c *cursor) text() (string, error) {
	w, err := c.take()
	if err != nil {
		return "", err
	}
	if w.kind != quoted {
		return "", fault(w.at, api.ErrScriptWord)
	}
	return w.text, nil
}

func (c *cursor) number(low, high int) (int, error) {
	w, err := c.take()
	if err != nil {
		return 0, err
	}
	n, ok := numberOf(w.text)
	if w.kind != bare || !ok || n < low || n > high {
		return 0, fault(w.at, api.ErrScriptNumber)
	}
	return n, nil
}

// numbers wants as many numbers as l has.
func (c *cursor) numbers(l []int, low, high int) (err error) {
	for i := range l {
		if l[i], err = c.number(low, high); err != nil {
			return err
		}
	}
	return nil
}

// numberOf tells a word's number: what strconv reads has several forms, what it writes has one.
func numberOf(text string) (int, bool) {
	n, err := strconv.Atoi(text)
	return n, err == nil && strconv.Itoa(n) == text && -maxNumber <= n && n <= maxNumber
}

func (c *cursor) setup() (s api.Setup, err error) {
	if err = c.word("bytes"); err != nil {
		return s, err
	}
	if err = c.numbers(s.Caps.Bytes[:], 0, maxNumber); err != nil {
		return s, err
	}
	if err = c.word("names"); err != nil {
		return s, err
	}
	if err = c.numbers(s.Caps.Names[:], 0, api.MaxNames); err != nil {
		return s, err
	}
	if err = c.word("most"); err != nil {
		return s, err
	}
	if s.Most, err = c.number(-maxNumber, maxNumber); err != nil {
		return s, err
	}
	return s, c.rest()
}
