package merkle

import (
	"twine/api"
	"twine/path"
	"twine/tree"
	"twine/wire"
)

// reading: a proof that is read from the left; bad, once something is told that may not be. (The reader itself knows what can't be read.)
type reading struct {
	*wire.Reader
	bad bool
}

// read tells what a proof claims of v at p; false, if it isn't of the form.
func read(p string, v api.Value, proof []byte) (*claim, bool) {
	if len(proof) > api.MaxProof || !isValue(v) {
		return nil, false
	}
	names, e := path.Split(p, api.MaxDepth)
	if e != api.OK {
		return nil, false
	}
	r := &reading{Reader: wire.Read(proof)}
	c := &claim{names: names}
	r.parts(c, v)
	r.End()
	return c, !r.bad && r.Err() == nil
}

// isValue tells whether v is a value: nothing, or what a tree may hold.
func isValue(v api.Value) bool {
	if v == (api.Value{}) {
		return true
	}
	_, e := tree.Check(api.Node{Value: v})
	return e == api.OK
}

// parts reads the steps and the end.
func (r *reading) parts(c *claim, v api.Value) {
	part := r.Byte()
	for part == stepPart && len(c.steps) < len(c.names) {
		c.steps = append(c.steps, r.step())
		part = r.Byte()
	}
	all := len(c.steps) == len(c.names)
	nothing := v.Kind == api.Nothing
	switch {
	case part == foundPart && all && !nothing:
		r.found(c, v)
	case part == gapPart && !all && nothing:
		r.gap(c, c.names[len(c.steps)])
	case part == otherPart && !all && nothing:
		r.other(c)
	default:
		r.bad = true
	}
}

// step reads what stands behind the byte 1.
func (r *reading) step() step {
	mode := r.number(api.Unknown)
	count := r.number(api.MaxNodes)
	place := r.number(api.MaxNodes)
	return step{mode, r.spot(count, place)}
}

// found reads what stands behind the byte 2.
func (r *reading) found(c *claim, v api.Value) {
	c.value = v
	if v.Kind != api.Dir {
		return
	}
	c.count, c.top = r.number(api.MaxNodes), r.sum()
	r.must(c.count > 0 || c.top == [32]byte{})
}

// gap reads what stands behind the byte 3.
func (r *reading) gap(c *claim, name string) {
	c.value = api.Value{Kind: api.Dir, Mode: r.number(api.Unknown)}
	c.count = r.number(api.MaxNodes)
	k := r.number(c.count)
	if k > 0 {
		s := r.side(c.count, k-1)
		r.must(s.name < name)
		c.sides = append(c.sides, s)
	}
	if k < c.count {
		s := r.side(c.count, k)
		r.must(s.name > name)
		c.sides = append(c.sides, s)
	}
}

// other reads what stands behind the byte 4.
func (r *reading) other(c *claim) {
	c.value.Kind = int(r.Byte())
	r.must(c.value.Kind == api.File || c.value.Kind == api.Link)
	if c.value.Kind == api.File {
		c.value.Mode = r.number(api.Unknown)
	}
	c.value.Size, c.value.Sum = r.number(api.MaxSize), r.sum()
	r.must(isValue(c.value))
}

// side reads a child that stands beside a missing name.
func (r *reading) side(count, place int) side {
	s := side{name: r.Text(api.MaxName), hash: r.sum()}
	r.must(path.Check(s.name) == api.OK)
	s.spot = r.spot(count, place)
	return s
}

// spot reads the siblings of a child at a place among so many.
func (r *reading) spot(count, place int) spot {
	s := spot{count: count, place: place}
	if place >= count { // so it is behind a fault, too: no siblings can be told then
		r.bad = true
		return s
	}
	for range height(count, place) {
		s.siblings = append(s.siblings, r.sum())
	}
	return s
}

// must notes whether what was read may be.
func (r *reading) must(ok bool) {
	if !ok {
		r.bad = true
	}
}

// number reads a number.
func (r *reading) number(most int) int { return int(r.Uint(uint64(most))) }

// sum reads 32 bytes.
func (r *reading) sum() [32]byte {
	var s [32]byte
	copy(s[:], r.Raw(len(s)))
	return s
}
