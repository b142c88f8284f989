package world

import (
	"math"
	"slices"
	"strings"

	"twine/api"
	"twine/path"
)

const staging = ".twine"

// New makes one over things.
func New(caps api.Caps, clock int, things [3][]api.Thing) (*World, api.Errno) {
	if !within(clock, 1, api.MaxBegin) {
		return nil, api.ErrWorldThings
	}
	w := &World{clock: clock}
	var at [3]map[string]int // the numbers, by path
	for v, l := range things {
		x, ok := empty(caps.Bytes[v], caps.Names[v], l)
		if !ok {
			return nil, api.ErrWorldThings
		}
		w.volumes[v] = x
		at[v] = make(map[string]int, len(l))
		if !w.take(v, l, at[v]) {
			return nil, api.ErrWorldThings
		}
	}
	for v := range w.volumes {
		if at[v][""] == 0 {
			w.last++
			w.volumes[v].hold(w.last, thing{kind: api.Dir, mode: 7, stamp: clock})
			at[v][""] = w.last
		}
		if !w.volumes[v].hang(at[v]) {
			return nil, api.ErrWorldThings
		}
	}
	return w, api.OK
}

// empty makes a volume without things, if so many bytes and names may be a volume's bounds, and its things have no more names.
func empty(bytes, count int, things []api.Thing) (volume, bool) {
	if bytes < 0 || !within(count, 0, api.MaxNames) {
		return volume{}, false
	}
	most := api.Room{Names: count, Bytes: bytes}
	if count == 0 {
		most.Names = api.MaxNames
	}
	if bytes == 0 {
		most.Bytes = math.MaxInt
	}
	if countNames(things) > most.Names {
		return volume{}, false
	}
	x := volume{most: most, things: make(map[int]thing, len(things))}
	x.sure = sure{names: names{}, modes: make(map[int]int, len(things)), gone: map[int]thing{}}
	return x, true
}

func countNames(things []api.Thing) int {
	n := 0
	for _, t := range things {
		if t.Path != "" {
			n++
		}
	}
	return n
}

// take takes a volume's things in, each by itself, and notes their numbers by path.
func (w *World) take(v int, things []api.Thing, at map[string]int) bool {
	x := &w.volumes[v]
	for _, t := range things {
		if !rightThing(t, w.clock) || w.knows(t.Number) || at[t.Path] != 0 {
			return false
		}
		at[t.Path] = t.Number
		w.last = max(w.last, t.Number)
		x.hold(t.Number, thing{t.Kind, t.Mode, t.Stamp, slices.Clone(t.Data), t.Sure})
	}
	return x.bytes <= x.most.Bytes
}

func (w *World) knows(number int) bool {
	for v := range w.volumes {
		if _, ok := w.volumes[v].things[number]; ok {
			return true
		}
	}
	return false
}

func (x *volume) hold(number int, t thing) {
	x.things[number] = t
	x.modes[number] = t.mode
	x.bytes += t.size()
	if t.kind == api.Dir {
		x.names[number] = map[string]int{}
	}
}

// hang gives all things their places, below one another. All directories are there by now, so that their order is free.
func (x *volume) hang(at map[string]int) bool {
	x.root = at[""]
	for p, number := range at {
		if p == "" {
			continue
		}
		above, name := path.Above(p)
		kids, ok := x.names[at[above]]
		if !ok {
			return false
		}
		kids[strings.Clone(name)] = number
	}
	x.now = x.names.picture()
	return true
}

func rightThing(t api.Thing, clock int) bool {
	return rightPath(t.Path) && rightKind(t) && within(t.Number, 1, api.MaxBegin) && within(t.Stamp, 1, clock)
}

func rightPath(p string) bool {
	most := api.MaxDepth
	if path.Under(p, staging) {
		most = api.MaxWay
	}
	_, e := path.Split(p, most)
	return e == api.OK
}

func rightKind(t api.Thing) bool {
	switch t.Kind {
	case api.Dir:
		return rightMode(t.Mode) && len(t.Data) == 0 && t.Sure == 0
	case api.File:
		return t.Path != "" && rightMode(t.Mode) && len(t.Data) <= api.MaxSize && within(t.Sure, 0, len(t.Data))
	case api.Link:
		return t.Path != "" && t.Mode == 0 && rightTarget(string(t.Data)) && t.Sure == 0
	}
	return false
}

func rightMode(mode int) bool { return within(mode, 0, 7) }

func rightTarget(target string) bool {
	return within(len(target), 1, api.MaxTarget) && strings.IndexByte(target, 0) < 0
}

func within(n, least, most int) bool { return least <= n && n <= most }
