package world

import (
	"slices"

	"twine/api"
)

// The sorts of calls that can be rigged.
const (
	changing = iota
	reading
)

// rig: so many calls go on, then so many fail; of an Append that fails a part is laid.
type rig struct{ after, calls, part int }

// rigged counts a call, and tells whether it fails.
func (x *volume) rigged(read bool) bool {
	r := &x.rigs[sortOf(read)]
	if r.after > 0 {
		r.after--
		return false
	}
	if r.calls == 0 {
		return false
	}
	r.calls--
	return true
}

func sortOf(read bool) int {
	if read {
		return reading
	}
	return changing
}

// Rig lets calls fail.
func (w *World) Rig(v, after, calls, part int, reading bool) {
	if isVolume(v) {
		w.volumes[v].rigs[sortOf(reading)] = rig{max(after, 0), max(calls, 0), max(part, 0)}
	}
}

// Fall lets the power fall.
func (w *World) Fall(names [3]int, keep [3][]int) {
	w.clock++
	w.owner = 0
	for v := range w.volumes {
		w.volumes[v].fall(names[v], keep[v], w.clock)
	}
}

// After tells the world as a fall would leave it.
func (w *World) After(names [3]int, keep [3][]int) *World {
	c := w.Copy()
	c.Fall(names, keep)
	return c
}

func (x *volume) fall(names int, keep []int, clock int) {
	there, gone := x.things, x.gone
	x.settle(names)
	x.now = x.names.picture()
	x.things, x.bytes, x.rigs = make(map[int]thing, len(there)), 0, [2]rig{}
	files := 0
	x.now.each("", x.root, func(_ string, number int) {
		t, ok := there[number]
		if !ok {
			t = gone[number]
		}
		more := 0
		if t.kind == api.File {
			more = kept(keep, files)
			files++
		}
		t = t.fallen(x.modes[number], more, clock)
		x.things[number] = t
		x.bytes += t.size()
	})
}

// kept tells how many unsure bytes stay of a file, the i-th by path.
func kept(keep []int, i int) int {
	if len(keep) == 0 {
		return 0
	}
	return max(keep[i%len(keep)], 0)
}

// fallen tells a thing behind a fall: with that mode, and, of a file, so many unsure bytes more.
func (t thing) fallen(mode, more, clock int) thing {
	if mode != t.mode {
		t.mode, t.stamp = mode, clock
	}
	if t.kind != api.File {
		return t
	}
	end := t.sure + min(more, len(t.data)-t.sure)
	if end != len(t.data) {
		t.data, t.stamp = slices.Concat(t.data[:end]), clock // anew, so that what is lost isn't held fast
	}
	t.sure = end
	return t
}
