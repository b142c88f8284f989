package world

import (
	"maps"
	"slices"

	"twine/api"
)

// Stat tells of a thing.
func (w *World) Stat(v int, p string) (api.Stat, api.Errno) {
	x, at, e := w.admitOne(call{volume: v, paths: []string{p}, root: true, reading: true})
	if e != api.OK {
		return api.Stat{}, e
	}
	t := x.things[at.number]
	return api.Stat{Kind: t.kind, Mode: t.mode, Size: len(t.data), Number: at.number, Stamp: t.stamp}, api.OK
}

// List tells what stands in a directory.
func (w *World) List(v int, p string) ([]string, api.Errno) {
	x, at, e := w.admitOne(call{volume: v, paths: []string{p}, root: true, reading: true})
	if e != api.OK {
		return nil, e
	}
	kids, ok := x.now[at.number]
	if !ok {
		return nil, api.ErrWorldKind
	}
	return slices.Sorted(maps.Keys(kids)), api.OK
}

// Read reads a file.
func (w *World) Read(v int, p string, number, off, n int) ([]byte, api.Errno) {
	x, at, e := w.admitOne(call{volume: v, paths: []string{p}, reading: true})
	if e != api.OK {
		return nil, e
	}
	if at.number != number {
		return nil, api.ErrWorldOther
	}
	t := x.things[number]
	if t.kind != api.File {
		return nil, api.ErrWorldKind
	}
	rest := t.data[min(max(off, 0), len(t.data)):]
	return slices.Clone(rest[:min(max(n, 0), len(rest))]), api.OK
}

// Target reads a link.
func (w *World) Target(v int, p string) (string, api.Errno) {
	x, at, e := w.admitOne(call{volume: v, paths: []string{p}, reading: true})
	if e != api.OK {
		return "", e
	}
	t := x.things[at.number]
	if t.kind != api.Link {
		return "", api.ErrWorldKind
	}
	return string(t.data), api.OK
}
