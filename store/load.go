package store

import (
	"errors"

	"twine/api"
	"twine/codec"
	"twine/tree"
	"twine/world"
)

// Loader: loading, step by step.
type Loader struct {
	world   *world.World
	most    int
	next    func(l *Loader) *api.Fault // does a step, and puts the one behind it in its own place
	tree    *tree.Tree                 // nil, unless it has ended well
	version int
}

// Load makes one.
func Load(w *world.World, most int) *Loader {
	return &Loader{world: w, most: most, next: (*Loader).settle}
}

// Step does a step: true: it has ended.
func (l *Loader) Step() (bool, error) {
	if f := l.next(l); f != nil {
		l.fail(*f)
		return false, f
	}
	return l.tree != nil, nil
}

// Tree tells what was loaded, and its version.
func (l *Loader) Tree() (*tree.Tree, int) { return l.tree, l.version }

// settle makes the names sure, so that what is read can't be what a fall would take away.
func (l *Loader) settle() *api.Fault {
	l.next = (*Loader).load
	if e := l.world.SyncVolume(api.S); e != api.OK {
		return &api.Fault{Err: e}
	}
	return nil
}

func (l *Loader) load() *api.Fault {
	if e := l.sweep(); e != api.OK {
		return &api.Fault{Path: fresh, Err: e}
	}
	b, there, e := l.read()
	if e != api.OK {
		return &api.Fault{Path: archive, Err: e}
	}
	if !there {
		l.end(First(), 0)
		return nil
	}
	t, version, err := codec.Decode(b, l.most)
	if err != nil {
		return faultOf(err)
	}
	l.end(t, version)
	return nil
}

// sweep removes what a saver that never came to its end has left.
func (l *Loader) sweep() api.Errno {
	s, e := l.look(fresh)
	if e != api.OK || s.Kind == api.Nothing {
		return e
	}
	return l.world.Remove(api.S, fresh)
}

// read tells the archive's bytes, made sure ahead of that, and whether there are any.
func (l *Loader) read() ([]byte, bool, api.Errno) {
	s, e := l.look(archive)
	switch {
	case e != api.OK || s.Kind == api.Nothing:
		return nil, false, e
	case s.Kind != api.File:
		return nil, false, api.ErrStoreKind
	}
	if e := l.world.Sync(api.S, archive); e != api.OK {
		return nil, false, e
	}
	b, e := l.world.Read(api.S, archive, s.Number, 0, s.Size)
	return b, e == api.OK, e
}

// look tells what stands at a place; that nothing does is no error.
func (l *Loader) look(p string) (api.Stat, api.Errno) {
	s, e := l.world.Stat(api.S, p)
	if e == api.ErrWorldNone {
		return api.Stat{}, api.OK
	}
	return s, e
}

// end lets each further step do nothing, and lets go of what they would need.
func (l *Loader) end(t *tree.Tree, version int) {
	*l = Loader{tree: t, version: version, next: func(*Loader) *api.Fault { return nil }}
}

// fail lets each further step answer a fault, a new one each time, since whoever gets one may change it.
func (l *Loader) fail(f api.Fault) {
	*l = Loader{next: func(*Loader) *api.Fault {
		again := f
		return &again
	}}
}

// faultOf tells the fault that an error of Decode is.
func faultOf(err error) *api.Fault {
	var f *api.Fault
	errors.As(err, &f)
	return f
}
