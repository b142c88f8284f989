package merkle

import "twine/api"

// claim: what a proof tells of a path.
type claim struct {
	names []string
	steps []step    // of the first names, from the root on
	value api.Value // of what stands where the steps end
	count int       // if that is a directory: of its children
	top   [32]byte  // and their top, where no neighbours give it
	sides []side    // the children beside a name that isn't there
}

// step: a directory on the way, and how the child of the next name hangs in it.
type step struct {
	mode int
	spot spot
}

// side: a child that stands right ahead of a missing name, or right behind it.
type side struct {
	name string
	hash [32]byte
	spot spot
}

// spot: a child's place among so many, and its siblings.
type spot struct {
	count, place int
	siblings     [][32]byte
}

// hash reckons the hash of the root from what is told; false: the neighbours don't give one top.
func (c *claim) hash(sum func(text []byte) [32]byte) ([32]byte, bool) {
	top := c.top
	for i, s := range c.sides {
		x := s.spot.top(s.name, s.hash, sum)
		if i > 0 && x != top {
			return [32]byte{}, false
		}
		top = x
	}
	h := sum(own(c.value, c.count, top))
	for i := len(c.steps) - 1; i >= 0; i-- {
		s := c.steps[i]
		top := s.spot.top(c.names[i], h, sum)
		h = sum(own(api.Value{Kind: api.Dir, Mode: s.mode}, s.spot.count, top))
	}
	return h, true
}

// top reckons the directory's top from the child's leaf, upwards by the siblings.
func (s spot) top(name string, hash [32]byte, sum func(text []byte) [32]byte) [32]byte {
	return rise(sum(leaf(name, hash)), s.count, s.place, s.siblings, sum)
}

// rise puts a leaf's sum together with the siblings, the last of which stands beside all that the others make.
func rise(x [32]byte, count, place int, siblings [][32]byte, sum func(text []byte) [32]byte) [32]byte {
	if count == 1 {
		return x
	}
	k, last := half(count), len(siblings)-1
	if place < k {
		return sum(inner(rise(x, k, place, siblings[:last], sum), siblings[last]))
	}
	return sum(inner(siblings[last], rise(x, count-k, place-k, siblings[:last], sum)))
}

// height tells how many siblings a child has; its place is below count.
func height(count, place int) int {
	n := 0
	for ; count > 1; n++ {
		k := half(count)
		if place < k {
			count = k
		} else {
			count, place = count-k, place-k
		}
	}
	return n
}
