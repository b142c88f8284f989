package apply

import (
	"strconv"

	"twine/api"
	"twine/path"
	"twine/stage"
	"twine/tree"
)

func (a *Apply) lookFirst() (int, api.Errno) {
	if same, e := a.look(); !same {
		return a.stop(e)
	}
	if a.src == nil {
		a.next = turn{api.DidPut, (*Apply).put}
	} else {
		a.stage = stage.New(a.world, a.item.From, a.item.To, a.item.Path, a.staging(), a.src)
		a.next = turn{api.DidStage, (*Apply).bring}
	}
	return api.DidLook, api.OK
}

func (a *Apply) bring() (int, api.Errno) {
	did, e := a.stage.Step()
	switch did {
	case api.DidOvertaken:
		return a.stop(api.OK)
	case api.DidFailed:
		return a.stop(e)
	}
	if a.stage.Left() == 0 {
		a.next = turn{api.DidPut, (*Apply).put}
	}
	return api.DidStage, api.OK
}

// put looks and moves in one step, so that nobody can come between.
func (a *Apply) put() (int, api.Errno) {
	if same, e := a.look(); !same {
		return a.stop(e)
	}
	placed, e := a.staged()
	if e != api.OK {
		return a.stop(e)
	}
	if e := a.move(); e != api.OK {
		return a.stop(e)
	}
	a.placed = placed
	a.endPut()
	return api.DidPut, api.OK
}

// endPut goes on to what was moved to the staging path; if nothing was, the item has ended.
func (a *Apply) endPut() {
	if a.dst == nil || a.src == nil && !full(a.dst) {
		a.end(api.HowPut)
		return
	}
	a.how = api.HowPut
	a.away = []branch{branchOf(a.staging(), a.dst)}
	a.next = turn{api.DidAway, (*Apply).clear}
	a.src, a.dst, a.stage = nil, nil, nil
}

// clear removes one thing. What can't be removed stays: the item is put all the same.
func (a *Apply) clear() (int, api.Errno) {
	e := a.world.Remove(a.item.To, a.lastAway())
	if e != api.OK || len(a.away) == 0 {
		a.end(api.HowPut)
	}
	return api.DidAway, e
}

// setMode is all that is done of a Both.
func (a *Apply) setMode() (int, api.Errno) {
	told, e := a.world.Stat(a.item.To, a.item.Path)
	switch {
	case e == api.ErrWorldNone || e == api.ErrWorldWay:
		return a.stop(api.OK)
	case e != api.OK:
		return a.stop(e)
	case told.Kind != api.Dir || !like(told, a.dst):
		return a.stop(api.OK)
	}
	if e := a.world.Chmod(a.item.To, a.item.Path, a.item.Mode); e != api.OK {
		return a.stop(e)
	}
	a.end(api.HowPut)
	return api.DidPut, api.OK
}

// stop ends an item that isn't put: where no call failed, somebody was ahead of it.
func (a *Apply) stop(e api.Errno) (int, api.Errno) {
	if e == api.OK {
		a.end(api.HowOvertaken)
		return api.DidOvertaken, api.OK
	}
	a.end(api.HowFailed)
	return api.DidFailed, e
}

// staged tells what the put will have placed: the staged files, as they are told now, by their paths in the replica.
func (a *Apply) staged() ([]api.Placed, api.Errno) {
	if a.src == nil {
		return nil, api.OK
	}
	var l []api.Placed
	for q, v := range a.src.All() {
		if v.Kind != api.File {
			continue
		}
		told, e := a.world.Stat(a.item.To, under(a.staging(), q))
		if e != api.OK {
			return nil, e
		}
		l = append(l, api.Placed{Path: under(a.item.Path, q), Number: told.Number, Stamp: told.Stamp})
	}
	return l, api.OK
}

// move makes the one call that changes the place.
func (a *Apply) move() api.Errno {
	switch {
	case a.src == nil && full(a.dst):
		return a.world.Rename(a.item.To, a.item.Path, a.staging())
	case a.src == nil:
		return a.world.Remove(a.item.To, a.item.Path)
	case a.dst == nil:
		return a.world.Rename(a.item.To, a.staging(), a.item.Path)
	}
	return a.world.Exchange(a.item.To, a.staging(), a.item.Path)
}

// staging tells the staging path.
func (a *Apply) staging() string {
	return path.Join([]string{".twine", strconv.Itoa(a.item.Number)})
}

// full tells whether t is a directory with children.
func full(t *tree.Tree) bool { return t != nil && t.Depth() > 0 }

// under tells the path of what is at q below root, which isn't empty.
func under(root, q string) string {
	if q == "" {
		return root
	}
	return path.Join([]string{root, q})
}
