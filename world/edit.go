package world

import (
	"maps"
	"slices"

	"twine/api"
)

// Edit is a user's call.
func (w *World) Edit(v int, e api.Edit) api.Errno {
	if v != api.A && v != api.B {
		return api.ErrWorldVolume
	}
	if !within(e.Kind, api.EditMkdir, api.EditSettle) {
		return api.ErrWorldEdit
	}
	x := &w.volumes[v]
	if e.Kind == api.EditSettle {
		x.settleAll()
		return api.OK
	}
	l, wrong := editPlaces(e)
	if wrong == api.OK {
		wrong = editWrong(e)
	}
	if wrong != api.OK {
		return wrong
	}
	switch e.Kind {
	case api.EditMkdir, api.EditFile, api.EditLink:
		return w.editNew(x, e, l[0])
	case api.EditRename, api.EditExchange:
		return x.editPair(e, l)
	}
	return w.editOne(x, e, l[0])
}

// editPlaces cuts an edit's paths into names, one by one, since one that is taken is told ahead of what is wrong with the next.
func editPlaces(e api.Edit) ([]place, api.Errno) {
	paths := []string{e.Path}
	if e.Kind == api.EditRename || e.Kind == api.EditExchange {
		paths = append(paths, e.To)
	}
	var all []place
	for _, p := range paths {
		l, wrong := places([]string{p}, api.MaxDepth, e.Kind == api.EditChmod)
		if wrong != api.OK {
			return nil, wrong
		}
		if names := l[0].names; len(names) > 0 && names[0] == staging {
			return nil, api.ErrWorldTaken
		}
		all = append(all, l[0])
	}
	return all, api.OK
}

func editWrong(e api.Edit) api.Errno {
	switch e.Kind {
	case api.EditLink:
		return wrongTarget(e.To)
	case api.EditMkdir, api.EditFile, api.EditChmod:
		return wrongMode(e.Mode)
	}
	return api.OK
}

func (w *World) editNew(x *volume, e api.Edit, at place) api.Errno {
	at, wrong := x.free(at)
	if wrong != api.OK {
		return wrong
	}
	switch e.Kind {
	case api.EditMkdir:
		return w.add(x, at, thing{kind: api.Dir, mode: e.Mode})
	case api.EditLink:
		return w.add(x, at, thing{kind: api.Link, data: []byte(e.To)})
	}
	if x.full(0, x.bytes, len(e.Data)) {
		return api.ErrWorldFull
	}
	return w.add(x, at, thing{kind: api.File, mode: e.Mode, data: slices.Clone(e.Data)})
}

func (x *volume) editPair(e api.Edit, l []place) api.Errno {
	a, b, wrong := x.pair(l[0], l[1], e.Kind == api.EditExchange)
	if wrong != api.OK {
		return wrong
	}
	if e.Kind == api.EditExchange {
		return x.exchange(a, b, api.MaxDepth)
	}
	return x.rename(a, b, api.MaxDepth)
}

func (w *World) editOne(x *volume, e api.Edit, at place) api.Errno {
	at, wrong := x.taken(at)
	if wrong != api.OK {
		return wrong
	}
	switch e.Kind {
	case api.EditWrite:
		return w.write(x, at.number, e.Data)
	case api.EditAppend:
		return w.lay(x, at.number, e.Data)
	case api.EditChmod:
		return w.chmod(x, at.number, e.Mode)
	case api.EditSync:
		return x.secure(at.number)
	}
	return x.remove(at)
}

// settleAll makes all of a volume sure.
func (x *volume) settleAll() {
	x.settle(len(x.changes))
	for _, number := range slices.Collect(maps.Keys(x.things)) {
		x.secure(number)
	}
}
