package store

import (
	"bytes"

	"twine/api"
	"twine/world"
)

// Saver: saving, call by call.
type Saver struct {
	world *world.World
	left  []byte                   // what isn't laid yet
	next  func(s *Saver) api.Errno // makes a call, and puts the one behind it in its own place
	where int
}

// Save makes one of bytes.
func Save(w *world.World, b []byte) *Saver {
	return &Saver{world: w, left: bytes.Clone(b), next: (*Saver).create}
}

// Step does a call: true: it has ended.
func (s *Saver) Step() (bool, api.Errno) {
	e := s.next(s)
	if e != api.OK {
		s.end(e)
	}
	return s.where == api.SavedYes, e
}

// Where tells whether the new archive is there: api.SavedNo, SavedPerhaps, SavedYes.
func (s *Saver) Where() int { return s.where }

func (s *Saver) create() api.Errno {
	s.next = s.filling()
	return s.world.Create(api.S, fresh)
}

func (s *Saver) lay() api.Errno {
	n := min(len(s.left), api.Piece)
	piece := s.left[:n]
	s.left = s.left[n:]
	s.next = s.filling()
	return s.world.Append(api.S, fresh, piece)
}

// filling tells what comes next, as long as there may be bytes to lay.
func (s *Saver) filling() func(s *Saver) api.Errno {
	if len(s.left) > 0 {
		return (*Saver).lay
	}
	return (*Saver).sync
}

// sync and settle make all of the new file sure ahead of the Rename, so that a fall behind that can't leave less than the whole of it.
func (s *Saver) sync() api.Errno {
	s.next = (*Saver).settle
	return s.world.Sync(api.S, fresh)
}

func (s *Saver) settle() api.Errno {
	s.next = (*Saver).rename
	return s.world.SyncVolume(api.S)
}

func (s *Saver) rename() api.Errno {
	s.next = (*Saver).seal
	e := s.world.Rename(api.S, fresh, archive)
	if e == api.OK {
		s.where = api.SavedPerhaps
	}
	return e
}

// seal makes the Rename sure.
func (s *Saver) seal() api.Errno {
	e := s.world.SyncVolume(api.S)
	if e == api.OK {
		s.where = api.SavedYes
		s.end(api.OK)
	}
	return e
}

// end lets each further step do nothing and answer e, and lets go of what they would need.
func (s *Saver) end(e api.Errno) {
	*s = Saver{where: s.where, next: func(*Saver) api.Errno { return e }}
}
