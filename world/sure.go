package world

import (
	"maps"
	"slices"
)

// sure: the names and the modes to which a fall goes back, and what it needs to go on from there.
type sure struct {
	names
	modes   map[int]int
	changes []change      // that aren't sure, in their order
	gone    map[int]thing // by these changes: a fall may bring them back
}

func (s *sure) do(c change) {
	s.names.do(c)
	if c.thing != 0 {
		s.modes[c.thing] = c.mode
	}
	delete(s.modes, c.gone)
}

// settle makes the first changes sure, and forgets the others.
func (s *sure) settle(first int) {
	for _, c := range s.changes[:min(max(first, 0), len(s.changes))] {
		s.do(c)
	}
	s.changes, s.gone = nil, map[int]thing{}
}

func (s *sure) picture() sure {
	return sure{s.names.picture(), maps.Clone(s.modes), slices.Clone(s.changes), pictures(s.gone)}
}
