package world

import (
	"slices"

	"twine/api"
)

// thing: what a number names, wherever it stands. Bytes that were laid are never written over: a picture may share them.
type thing struct {
	kind, mode, stamp int
	data              []byte // a file's bytes, a link's target
	sure              int    // so many of a file's bytes
}

// volume: what is sure of it, and what stands there now.
type volume struct {
	sure
	root   int
	now    names
	things map[int]thing // those that stand there
	bytes  int           // of its files
	most   api.Room
	rigs   [2]rig // of the changing and of the reading calls
}

// place: a path, its names, and the spot that they lead to, once they were gone along.
type place struct {
	path  string
	names []string
	spot
}

// find goes along a path's names.
func (x *volume) find(at place) (place, api.Errno) {
	at.spot = spot{number: x.root}
	for _, name := range at.names {
		kids, ok := x.now[at.number]
		if !ok {
			return place{}, api.ErrWorldWay
		}
		at.spot = spot{at.number, name, kids[name]}
	}
	return at, api.OK
}

// free finds a place where nothing may stand.
func (x *volume) free(at place) (place, api.Errno) {
	at, e := x.find(at)
	if e == api.OK && at.number != 0 {
		e = api.ErrWorldTwice
	}
	return at, e
}

// taken finds a place where something must stand.
func (x *volume) taken(at place) (place, api.Errno) {
	at, e := x.find(at)
	if e == api.OK && at.number == 0 {
		e = api.ErrWorldNone
	}
	return at, e
}

// pair finds two places, at the first of which, or at both, something must stand.
func (x *volume) pair(a, b place, both bool) (place, place, api.Errno) {
	a, e := x.find(a)
	if e != api.OK {
		return a, b, e
	}
	b, e = x.find(b)
	if e == api.OK && (a.number == 0 || both && b.number == 0) {
		e = api.ErrWorldNone
	}
	return a, b, e
}

// change does a change, and notes it, since it isn't sure.
func (x *volume) change(c change) {
	x.now.do(c)
	x.changes = append(x.changes, c)
	t, ok := x.things[c.gone]
	if !ok {
		return
	}
	x.gone[c.gone] = t
	delete(x.things, c.gone)
	x.bytes -= t.size()
}

// size tells how many of a volume's bytes a thing takes: files have some.
func (t thing) size() int {
	if t.kind == api.File {
		return len(t.data)
	}
	return 0
}

// full tells whether there is no room for more bytes, behind so many of a file and so many of the volume.
func (x *volume) full(file, all, more int) bool {
	return file+more > api.MaxSize || all+more > x.most.Bytes
}

func (x *volume) image() []api.Thing {
	l := make([]api.Thing, 0, len(x.things))
	x.now.each("", x.root, func(p string, number int) {
		t := x.things[number]
		l = append(l, api.Thing{Path: p, Kind: t.kind, Mode: t.mode, Data: slices.Clone(t.data), Sure: t.sure, Number: number, Stamp: t.stamp})
	})
	return l
}

func (x *volume) picture() volume {
	c := *x
	c.sure, c.now, c.things = x.sure.picture(), x.now.picture(), pictures(x.things)
	return c
}

// pictures copies things. Their bytes have no spare room there, so that what is laid behind them on one side isn't laid into the other's.
func pictures(things map[int]thing) map[int]thing {
	c := make(map[int]thing, len(things))
	for number, t := range things {
		t.data = slices.Clip(t.data)
		c[number] = t
	}
	return c
}
