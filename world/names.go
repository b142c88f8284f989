package world

import (
	"maps"
	"slices"
	"strings"

	"twine/path"
)

// names: what stands where: of each directory, by its number, the numbers of what stands in it, by name. What has no entry is no directory; 0 is nobody's number.
type names map[int]map[string]int

// spot: a name in a directory, and the number of what stands there; 0: nothing.
type spot struct {
	dir    int
	name   string
	number int
}

// with tells the spot with something else there. Its name is a copy, so that none that is kept holds a whole path fast.
func (s spot) with(number int) spot { return spot{s.dir, strings.Clone(s.name), number} }

// change: a change of names. It speaks of numbers alone, so that it can be done again to the names that are sure.
type change struct {
	spots []spot // what stands where behind it
	thing int    // whose mode it sets; 0: nobody's
	mode  int
	dir   bool // the thing is a new directory
	gone  int  // what it takes away; 0: nothing
}

func (n names) do(c change) {
	if c.dir {
		n[c.thing] = map[string]int{}
	}
	for _, s := range c.spots {
		if s.number == 0 {
			delete(n[s.dir], s.name)
		} else {
			n[s.dir][s.name] = s.number
		}
	}
	delete(n, c.gone)
}

func (n names) picture() names {
	c := make(names, len(n))
	for dir, kids := range n {
		c[dir] = maps.Clone(kids)
	}
	return c
}

// each goes through a thing, which stands at p, and all below it, rising by path.
func (n names) each(p string, number int, see func(p string, number int)) {
	see(p, number)
	for _, name := range slices.Sorted(maps.Keys(n[number])) {
		n.each(below(p, name), n[number][name], see)
	}
}

// deeper tells whether something hangs more than so many names below a thing.
func (n names) deeper(number, most int) bool {
	for _, kid := range n[number] {
		if most == 0 || n.deeper(kid, most-1) {
			return true
		}
	}
	return false
}

func below(p, name string) string {
	if p == "" {
		return name
	}
	return path.Join([]string{p, name})
}
