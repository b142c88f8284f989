package world

import (
	"slices"

	"twine/api"
	"twine/path"
)

// This file: what calls of runs and edits do alike, once their places are found.

// add makes a new thing.
func (w *World) add(x *volume, at place, t thing) api.Errno {
	if len(x.things)-1 >= x.most.Names { // the root isn't counted
		return api.ErrWorldFull
	}
	w.last++
	t.stamp = w.clock
	x.things[w.last] = t
	x.bytes += t.size()
	x.change(change{spots: []spot{at.with(w.last)}, thing: w.last, mode: t.mode, dir: t.kind == api.Dir})
	return api.OK
}

// lay lays bytes behind a file's.
func (w *World) lay(x *volume, number int, b []byte) api.Errno {
	t := x.things[number]
	if t.kind != api.File {
		return api.ErrWorldKind
	}
	if x.full(len(t.data), x.bytes, len(b)) {
		return api.ErrWorldFull
	}
	if len(b) == 0 {
		return api.OK
	}
	t.data = append(t.data, b...)
	t.stamp = w.clock
	x.things[number] = t
	x.bytes += len(b)
	return api.OK
}

// write gives a file other bytes.
func (w *World) write(x *volume, number int, b []byte) api.Errno {
	t := x.things[number]
	if t.kind != api.File {
		return api.ErrWorldKind
	}
	rest := x.bytes - len(t.data)
	if x.full(0, rest, len(b)) {
		return api.ErrWorldFull
	}
	t.data, t.sure, t.stamp = slices.Clone(b), 0, w.clock
	x.things[number] = t
	x.bytes = rest + len(b)
	return api.OK
}

func (w *World) chmod(x *volume, number, mode int) api.Errno {
	t := x.things[number]
	if t.kind == api.Link {
		return api.ErrWorldKind
	}
	t.mode, t.stamp = mode, w.clock
	x.things[number] = t
	x.change(change{thing: number, mode: mode})
	return api.OK
}

// secure makes a file's bytes sure.
func (x *volume) secure(number int) api.Errno {
	t := x.things[number]
	if t.kind != api.File {
		return api.ErrWorldKind
	}
	t.sure = len(t.data)
	x.things[number] = t
	return api.OK
}

func (x *volume) remove(at place) api.Errno {
	if len(x.now[at.number]) > 0 {
		return api.ErrWorldRest
	}
	x.change(change{spots: []spot{at.with(0)}, gone: at.number})
	return api.OK
}

// rename moves a thing. most: of how many names a path below it may be.
func (x *volume) rename(from, to place, most int) api.Errno {
	switch {
	case from.path == to.path:
		return api.OK
	case nested(from, to):
		return api.ErrWorldInside
	case to.number != 0 && (x.isDir(from) || x.isDir(to)):
		return api.ErrWorldKind
	case x.tooDeep(from, to, most):
		return api.ErrWorldDeep
	}
	x.change(change{spots: []spot{from.with(0), to.with(from.number)}, gone: to.number})
	return api.OK
}

// exchange lets two things change places.
func (x *volume) exchange(a, b place, most int) api.Errno {
	switch {
	case a.path == b.path:
		return api.OK
	case nested(a, b):
		return api.ErrWorldInside
	case x.tooDeep(a, b, most) || x.tooDeep(b, a, most):
		return api.ErrWorldDeep
	}
	x.change(change{spots: []spot{a.with(b.number), b.with(a.number)}})
	return api.OK
}

func nested(a, b place) bool { return path.Under(a.path, b.path) || path.Under(b.path, a.path) }

func (x *volume) isDir(at place) bool { return x.things[at.number].kind == api.Dir }

// tooDeep tells whether what hangs below a thing would have too long a path, if the thing stood at the other place.
func (x *volume) tooDeep(from, to place, most int) bool {
	return x.now.deeper(from.number, most-len(to.names))
}
