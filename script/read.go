package script

import (
	"slices"

	"twine/api"
)

// book: the steps that are read, and the repeat that is under way.
type book struct {
	steps []api.Step
	data  int // how many bytes of content the steps have
	times int // of the repeat; 0: none is under way
	from  int // where its body begins
	ahead int // how many bytes of content the steps ahead of it have
}

func (b *book) isRepeating() bool { return b.times > 0 }

// line reads a line. A bare number that it answers speaks of the line's first word; all else that is wrong is told with its place.
func (b *book) line(c *cursor) error {
	w, err := c.take()
	if err != nil {
		return err
	}
	switch {
	case w.is("repeat"):
		return b.repeat(c)
	case w.is("end"):
		return b.end(c)
	}
	f, ok := formOfWord(w)
	if !ok {
		return api.ErrScriptWord
	}
	return b.step(f, c)
}

func (b *book) step(f form, c *cursor) error {
	if len(b.steps) == api.MaxSteps {
		return api.ErrScriptMany
	}
	s := api.Step{Kind: f.kind, Edit: api.Edit{Kind: f.edit}}
	if err := c.fill(&s, f.places); err != nil {
		return err
	}
	if b.data+len(s.Edit.Data) > api.MaxContent {
		return api.ErrScriptLong
	}
	b.data += len(s.Edit.Data)
	b.steps = append(b.steps, s)
	return nil
}

func (b *book) repeat(c *cursor) error {
	if b.isRepeating() {
		return api.ErrScriptWord
	}
	times, err := c.number(1, maxOften)
	if err != nil {
		return err
	}
	b.times, b.from, b.ahead = times, len(b.steps), b.data
	return c.rest()
}

func (b *book) end(c *cursor) error {
	again := b.times - 1
	steps := len(b.steps) + again*(len(b.steps)-b.from)
	data := b.data + again*(b.data-b.ahead)
	switch {
	case !b.isRepeating():
		return api.ErrScriptWord
	case steps > api.MaxSteps:
		return api.ErrScriptMany
	case data > api.MaxContent:
		return api.ErrScriptLong
	}
	b.unfold(again)
	b.data, b.times = data, 0
	return c.rest()
}

// unfold lays the body of the repeat so often once more.
func (b *book) unfold(again int) {
	body := b.steps[b.from:]
	for range again {
		for _, s := range body {
			b.steps = append(b.steps, copied(s))
		}
	}
}

// copied tells a step that shares no memory with s.
func copied(s api.Step) api.Step {
	s.Edit.Data = slices.Clone(s.Edit.Data)
	for v, l := range s.Keep {
		s.Keep[v] = slices.Clone(l)
	}
	return s
}

// fill reads what stands at a form's places into a step.
func (c *cursor) fill(s *api.Step, places string) error {
	for _, place := range places {
		if err := c.read(s, place); err != nil {
			return err
		}
	}
	return c.rest()
}

func (c *cursor) read(s *api.Step, place rune) (err error) {
	switch place {
	case 'v':
		s.Volume, err = c.volume(api.A)
	case 'p':
		s.Edit.Path, err = c.text()
	case 't':
		s.Edit.To, err = c.text()
	case 'd':
		s.Edit.Data, err = c.data()
	case 'm':
		s.Edit.Mode, err = c.number(-maxNumber, maxNumber)
	case 'r':
		s.Rules, err = c.text()
	case 'o':
		s.A, err = c.number(0, maxOften)
	case 'a':
		s.A, err = c.number(-maxNumber, maxNumber)
	case 'b':
		s.B, err = c.number(-maxNumber, maxNumber)
	case 'c':
		s.C, err = c.number(-maxNumber, maxNumber)
	case 'n':
		err = c.numbers(s.Names[:], -maxNumber, maxNumber)
	case 'k':
		s.Keep, err = c.keeps()
	case 'w':
		s.Reading, err = c.reading()
	}
	return err
}

func (c *cursor) data() ([]byte, error) {
	text, err := c.text()
	return []byte(text), err
}

// keeps reads keeps up to the line's end: each volume once at most, rising.
func (c *cursor) keeps() (keep [3][]int, err error) {
	for v := -1; c.hasMore(); {
		if err = c.word("keep"); err != nil {
			return keep, err
		}
		if v, err = c.volume(v + 1); err != nil {
			return keep, err
		}
		if keep[v], err = c.keep(); err != nil {
			return keep, err
		}
	}
	return keep, nil
}

// keep reads a keep's numbers.
func (c *cursor) keep() ([]int, error) {
	var l []int
	for c.hasMore() && !c.isAt("keep") {
		n, err := c.number(-maxNumber, maxNumber)
		if err != nil {
			return nil, err
		}
		l = append(l, n)
	}
	return l, nil
}

func (c *cursor) reading() (bool, error) {
	if !c.hasMore() {
		return false, nil
	}
	err := c.word("reading")
	return err == nil, err
}
