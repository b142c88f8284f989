package merkle

import (
	"encoding/binary"
	"strings"

	"twine/api"
	"twine/path"
)

// This file: proofs read as plainly as can be: loosely first; what was read, written again, must be the same bytes; then P5.6's conditions, one by one.

// loose: bytes from the left; short, once they don't suffice.
type loose struct {
	b     []byte
	short bool
}

func (l *loose) take(n int) string {
	if n > len(l.b) {
		l.b, l.short = nil, true
		return ""
	}
	s := string(l.b[:n])
	l.b = l.b[n:]
	return s
}

func (l *loose) number() int {
	n, k := binary.Uvarint(l.b)
	if k <= 0 || n > 1<<62 {
		l.b, l.short = nil, true
		return 0
	}
	l.take(k)
	return int(n)
}

// siblings: 32 bytes for each time that the child's part of the children is cut.
func (l *loose) siblings(count, place int) string {
	if place < 0 || place >= count || count > api.MaxNodes {
		l.short = true
		return ""
	}
	n := 0
	for ; count > 1; n++ {
		k := plainHalf(count)
		if place < k {
			count = k
		} else {
			count, place = count-k, place-k
		}
	}
	return l.take(32 * n)
}

// parse reads a proof for so many names, and for a value of this kind.
func parse(proof []byte, names, kind int) (told, bool) {
	l := &loose{b: proof}
	var x told
	part := l.take(1)
	for part == "\x01" && len(x.steps) < names {
		s := toldStep{mode: l.number(), count: l.number(), place: l.number()}
		s.siblings = l.siblings(s.count, s.place)
		x.steps = append(x.steps, s)
		part = l.take(1)
	}
	if part == "" || part > "\x04" {
		return x, false
	}
	x.end = int(part[0])
	switch x.end {
	case 2:
		x.value.Kind = kind
		if kind == api.Dir {
			x.count, x.top = l.number(), l.take(32)
		}
	case 3:
		x.mode, x.count, x.k = l.number(), l.number(), l.number()
		for i := max(x.k-1, 0); i <= x.k && i < x.count && !l.short; i++ {
			s := toldSide{name: l.take(l.number()), hash: l.take(32)}
			s.siblings = l.siblings(x.count, i)
			x.sides = append(x.sides, s)
		}
	case 4:
		x.value.Kind = l.number()
		if x.value.Kind == api.File {
			x.value.Mode = l.number()
		}
		x.value.Size = l.number()
		copy(x.value.Sum[:], l.take(32))
	}
	return x, !l.short && string(x.bytes()) == string(proof)
}

// plainValue: P5.7, a line a kind.
func plainValue(v api.Value) bool {
	none := v.Sum == [32]byte{}
	switch v.Kind {
	case 0:
		return v.Mode == 0 && v.Size == 0 && none
	case 1:
		return 0 <= v.Mode && v.Mode <= 8 && v.Size == 0 && none
	case 2:
		return 0 <= v.Mode && v.Mode <= 8 && 0 <= v.Size && v.Size <= 1<<40-1
	case 3:
		return v.Mode == 0 && 1 <= v.Size && v.Size <= 4095
	}
	return false
}

// fits: P5.6's conditions of what was told.
func (x told) fits(names []string, v api.Value) bool {
	for _, s := range x.steps {
		if s.mode > 8 {
			return false
		}
	}
	all := len(x.steps) == len(names)
	switch x.end {
	case 2:
		return all && v.Kind != 0 && x.count <= 1048576 && (x.count > 0 || strings.Trim(x.top, "\x00") == "")
	case 3:
		return !all && v.Kind == 0 && x.mode <= 8 && x.count <= 1048576 && x.k <= x.count && x.sidesFit(names[len(x.steps)])
	case 4:
		return !all && v.Kind == 0 && x.value.Kind >= 2 && plainValue(x.value)
	}
	return false
}

func (x told) sidesFit(name string) bool {
	for i, s := range x.sides {
		if path.Check(s.name) != api.OK {
			return false
		}
		if below := i == 0 && x.k > 0; below && s.name >= name || !below && s.name <= name {
			return false
		}
	}
	return true
}

// plainHolds: P5.6; and the texts that are summed.
func plainHolds(by func([]byte) [32]byte, root [32]byte, p string, v api.Value, proof []byte) (bool, []string) {
	names, e := path.Split(p, 64)
	if e != api.OK || !plainValue(v) || len(proof) > 90000 {
		return false, nil
	}
	x, ok := parse(proof, len(names), v.Kind)
	if !ok || !x.fits(names, v) {
		return false, nil
	}
	r := plain{by: by}
	h, ok := r.reckon(x, names, v)
	return ok && h == string(root[:]), r.texts
}
