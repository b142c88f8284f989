package path

import (
	"slices"
	"strings"

	"twine/api"
)

// anyNames: the piece that stands for any number of names.
const anyNames = "**"

// Match tells whether a pattern matches a path.
func Match(pattern, p string) (bool, api.Errno) {
	signs, e := patternPieces(pattern)
	if e != api.OK {
		return false, e
	}
	names, e := Split(p, api.MaxDepth)
	if e != api.OK {
		return false, e
	}
	if len(names) == 0 {
		return false, api.OK
	}
	if !anchored(pattern) {
		names = names[len(names)-1:]
	}
	return matchNames(signs, names), api.OK
}

func anchored(pattern string) bool { return strings.Contains(pattern, "/") }

func patternPieces(pattern string) ([]string, api.Errno) {
	left := strings.TrimPrefix(pattern, "/")
	if left == "" || len(pattern) > api.MaxPattern || !signsRight(left) {
		return nil, api.ErrPathPattern
	}
	l := listPieces(left)
	if slices.Contains(l, "") {
		return nil, api.ErrPathPattern
	}
	return l, api.OK
}

// signsRight tells whether each '\' has a byte behind it in its piece, and whether there are few enough stars. What a '\' takes is a byte, here a rune is skipped: its other bytes are no signs.
func signsRight(text string) bool {
	stars, taken := 0, false
	for _, r := range text {
		switch {
		case taken && r == '/':
			return false
		case taken:
			taken = false
		case r == '\\':
			taken = true
		case r == '*':
			stars++
		}
	}
	return !taken && stars <= api.MaxStars
}

func matchNames(signs, names []string) bool {
	many := func(s int) bool { return signs[s] == anyNames }
	one := func(s, n int) int {
		if matchName(signs[s], names[n]) {
			return 1
		}
		return 0
	}
	return made(len(signs), len(names), many, one)
}

func matchName(piece, name string) bool {
	many := func(s int) bool { return piece[s] == '*' }
	one := func(s, n int) int { return signWidth(piece[s:], name[n]) }
	return made(len(piece), len(name), many, one)
}

// signWidth tells how many bytes the piece's first sign has, if it stands for b; else 0.
func signWidth(piece string, b byte) int {
	switch {
	case piece[0] == '\\' && piece[1] == b:
		return 2
	case piece[0] == '\\':
		return 0
	case piece[0] == '?' || piece[0] == b:
		return 1
	}
	return 0
}

// made tells whether so many things are made of signs: many tells which sign stands for any number of things, one how far the next sign is behind one that stands for this thing (0: it doesn't). Only the last sign for many is ever given one thing more: had a former one to take more, the last one could take that as well. So the time is at most signs times things.
func made(signs, things int, many func(s int) bool, one func(s, t int) int) bool {
	s, t := 0, 0
	back, from := -1, 0
	for t < things {
		if s < signs && many(s) {
			s++
			back, from = s, t
			continue
		}
		if s < signs {
			if width := one(s, t); width > 0 {
				s, t = s+width, t+1
				continue
			}
		}
		if back < 0 {
			return false
		}
		from++
		s, t = back, from
	}
	for s < signs && many(s) {
		s++
	}
	return s == signs
}
