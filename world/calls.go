package world

import "twine/api"

// call: what a run asks for, as far as that is looked at ahead of the volume's things.
type call struct {
	volume  int
	paths   []string
	root    bool      // a path may be the root's
	wrong   api.Errno // of a target or a mode
	reading bool
}

// admit goes up to the third of the places at which a call may be refused.
func (w *World) admit(c call) (*volume, []place, api.Errno) {
	if !isVolume(c.volume) {
		return nil, nil, api.ErrWorldVolume
	}
	l, e := places(c.paths, api.MaxWay, c.root)
	if e == api.OK {
		e = c.wrong
	}
	x := &w.volumes[c.volume]
	if e == api.OK && x.rigged(c.reading) {
		e = api.ErrWorldFault
	}
	return x, l, e
}

// admitOne goes up to the fourth of these places, for a call of one path where something must stand.
func (w *World) admitOne(c call) (*volume, place, api.Errno) {
	x, l, e := w.admit(c)
	if e != api.OK {
		return nil, place{}, e
	}
	at, e := x.taken(l[0])
	return x, at, e
}

// bring makes a thing where nothing stands.
func (w *World) bring(c call, t thing) api.Errno {
	x, l, e := w.admit(c)
	if e != api.OK {
		return e
	}
	at, e := x.free(l[0])
	if e != api.OK {
		return e
	}
	return w.add(x, at, t)
}

// Mkdir makes a directory.
func (w *World) Mkdir(v int, p string) api.Errno {
	return w.bring(call{volume: v, paths: []string{p}}, thing{kind: api.Dir, mode: 7})
}

// Link makes a link.
func (w *World) Link(v int, p, target string) api.Errno {
	return w.bring(call{volume: v, paths: []string{p}, wrong: wrongTarget(target)}, thing{kind: api.Link, data: []byte(target)})
}

// Create makes an empty file.
func (w *World) Create(v int, p string) api.Errno {
	return w.bring(call{volume: v, paths: []string{p}}, thing{kind: api.File, mode: 7})
}

// Append lays bytes behind a file's.
func (w *World) Append(v int, p string, b []byte) api.Errno {
	x, l, e := w.admit(call{volume: v, paths: []string{p}})
	switch e {
	case api.OK:
		return w.appendAt(x, l[0], b)
	case api.ErrWorldFault:
		w.appendAt(x, l[0], b[:min(x.rigs[changing].part, len(b))]) // the call has failed, whatever comes of its part
	}
	return e
}

func (w *World) appendAt(x *volume, at place, b []byte) api.Errno {
	at, e := x.taken(at)
	if e != api.OK {
		return e
	}
	return w.lay(x, at.number, b)
}

// Chmod gives a mode.
func (w *World) Chmod(v int, p string, mode int) api.Errno {
	x, at, e := w.admitOne(call{volume: v, paths: []string{p}, root: true, wrong: wrongMode(mode)})
	if e != api.OK {
		return e
	}
	return w.chmod(x, at.number, mode)
}

// Sync makes a file's bytes sure.
func (w *World) Sync(v int, p string) api.Errno {
	x, at, e := w.admitOne(call{volume: v, paths: []string{p}})
	if e != api.OK {
		return e
	}
	return x.secure(at.number)
}

// SyncThing makes the bytes of a file sure, wherever it is.
func (w *World) SyncThing(v, number, stamp int) api.Errno {
	x, _, e := w.admit(call{volume: v})
	if e != api.OK {
		return e
	}
	if t := x.things[number]; t.kind != api.File || t.stamp != stamp {
		return api.ErrWorldOther
	}
	return x.secure(number)
}

// Rename moves a thing.
func (w *World) Rename(v int, from, to string) api.Errno {
	x, l, e := w.admit(call{volume: v, paths: []string{from, to}})
	if e != api.OK {
		return e
	}
	a, b, e := x.pair(l[0], l[1], false)
	if e != api.OK {
		return e
	}
	return x.rename(a, b, api.MaxWay)
}

// Exchange lets two things change places.
func (w *World) Exchange(v int, x, y string) api.Errno {
	d, l, e := w.admit(call{volume: v, paths: []string{x, y}})
	if e != api.OK {
		return e
	}
	a, b, e := d.pair(l[0], l[1], true)
	if e != api.OK {
		return e
	}
	return d.exchange(a, b, api.MaxWay)
}

// Remove takes a file, a link or an empty directory away.
func (w *World) Remove(v int, p string) api.Errno {
	x, at, e := w.admitOne(call{volume: v, paths: []string{p}})
	if e != api.OK {
		return e
	}
	return x.remove(at)
}

// SyncVolume makes all names, modes and links of a volume sure.
func (w *World) SyncVolume(v int) api.Errno {
	x, _, e := w.admit(call{volume: v})
	if e == api.OK {
		x.settle(len(x.changes))
	}
	return e
}
