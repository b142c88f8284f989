package scan

import (
	"slices"

	"twine/api"
	"twine/path"
	"twine/sum"
	"twine/tree"
)

// step does a step at the next path; there is one.
func (s *Scan) step(hash hasher) {
	at := s.next()
	p := at.path()
	if s.file != nil {
		s.readOn(p, hash)
		return
	}
	t, e := s.world.Stat(s.volume, p)
	switch {
	case e == api.ErrWorldNone || e == api.ErrWorldWay:
		s.pass() // somebody took it away
	case e != api.OK:
		s.lose(p, e)
	case t.Kind == api.Dir:
		s.list(at, t.Mode)
	case t.Kind == api.Link:
		s.follow(at, hash)
	default:
		s.open(at, t, hash)
	}
}

// pass has the next path done.
func (s *Scan) pass() {
	last := len(s.todo) - 1
	b := &s.todo[last]
	b.names = b.names[1:]
	if len(b.names) == 0 {
		s.todo = slices.Delete(s.todo, last, last+1)
	}
}

func (s *Scan) lose(p string, e api.Errno) {
	s.lost = append(s.lost, api.Lost{Path: p, Err: e})
	s.file = nil
	s.pass()
}

// list reads a directory.
func (s *Scan) list(at place, mode int) {
	p := at.path()
	names, e := s.world.List(s.volume, p)
	if e != api.OK {
		s.lose(p, e)
		return
	}
	s.pass()
	s.tell(at, api.Value{Kind: api.Dir, Mode: mode}, api.Mark{})
	s.listed += len(names)
	if names = s.sift(p, names); len(names) > 0 {
		s.todo = append(s.todo, branch{p, names})
	}
}

// sift leaves of a directory's names those that are listed by them, and has the directory held where a rule lets one be.
func (s *Scan) sift(dir string, names []string) []string {
	held := false
	names = slices.DeleteFunc(names, func(name string) bool {
		if dir == "" && name == staging {
			return true
		}
		skips := s.rules.Skip(place{dir, name}.path())
		held = held || skips
		return skips
	})
	if held {
		s.hold(dir)
	}
	return names
}

// hold has a directory held, and all above it.
func (s *Scan) hold(dir string) {
	for {
		i, known := slices.BinarySearchFunc(s.held, dir, path.Compare)
		if known {
			return // those above it are, too
		}
		s.held = slices.Insert(s.held, i, dir)
		if dir == "" {
			return
		}
		dir, _ = path.Above(dir)
	}
}

// follow reads a link's target.
func (s *Scan) follow(at place, hash hasher) {
	p := at.path()
	target, e := s.world.Target(s.volume, p)
	if e != api.OK {
		s.lose(p, e)
		return
	}
	s.file = &content{at: at, value: api.Value{Kind: api.Link, Size: len(target)}, sums: sum.NewPieces()}
	for piece := range slices.Chunk([]byte(target), api.Piece) {
		s.file.add(hash(piece))
	}
	s.finish()
}

// open takes a file by its mark, or begins to read it.
func (s *Scan) open(at place, t api.Stat, hash hasher) {
	told := api.Mark{Number: t.Number, Stamp: t.Stamp}
	p := at.path()
	if v, ok := s.quick(p, t, told); ok {
		s.pass()
		s.tell(at, v, told)
		s.things[at] = thing{told, true}
		return
	}
	s.file = &content{at: at, value: api.Value{Kind: api.File, Mode: t.Mode, Size: t.Size}, told: told, sums: sum.NewPieces()}
	if t.Stamp < s.world.Clock() { // else it may be changed once more, and have the same stamp
		s.file.mark = told
	}
	if t.Size == 0 {
		s.finish()
		return
	}
	s.readOn(p, hash)
}

// quick tells the value that the archive has of a file, if its mark there may be trusted. (What is no file has no mark, and 0, 0 is no thing's.)
func (s *Scan) quick(p string, t api.Stat, told api.Mark) (api.Value, bool) {
	x, ok := s.old.Sub(p)
	if !ok || !s.marks() {
		return api.Value{}, false
	}
	v := x.Value()
	return v, x.Marks()[s.volume] == told && v.Size == t.Size && v.Mode == t.Mode
}

// readOn reads the next piece of the file that is being read.
func (s *Scan) readOn(p string, hash hasher) {
	f := s.file
	first, size := f.off == 0, f.value.Size
	n := min(size-f.off, api.Piece)
	b, e := s.world.Read(s.volume, p, f.told.Number, f.off, n)
	if e == api.OK && len(b) < n {
		e = api.ErrScanMoved
	}
	if e != api.OK {
		s.lose(p, moved(e))
		return
	}
	s.listed++
	f.off += n
	f.add(hash(b))
	if f.off < size {
		return
	}
	if !first {
		if e := s.again(p); e != api.OK {
			s.lose(p, e)
			return
		}
	}
	s.finish()
}

// again looks whether the file that was read is still the one that it was in its first step.
func (s *Scan) again(p string) api.Errno {
	t, e := s.world.Stat(s.volume, p)
	if e != api.OK {
		return moved(e)
	}
	if (api.Mark{Number: t.Number, Stamp: t.Stamp}) != s.file.told || t.Size != s.file.value.Size {
		return api.ErrScanMoved
	}
	return api.OK
}

// moved tells why a file is lost, by the error of a call for it: by these four it is that somebody moved it.
func moved(e api.Errno) api.Errno {
	switch e {
	case api.ErrWorldOther, api.ErrWorldNone, api.ErrWorldWay, api.ErrWorldKind:
		return api.ErrScanMoved
	}
	return e
}

// finish has the file that was read done.
func (s *Scan) finish() {
	s.read = append(s.read, s.file)
	s.file = nil
	s.pass()
}

// marks tells whether files of this volume have marks.
func (s *Scan) marks() bool { return s.volume == api.A || s.volume == api.B }

// tell puts a thing into the tree. What has more names in the volume than a tree's paths may have isn't told.
func (s *Scan) tell(at place, v api.Value, mark api.Mark) {
	n := api.Node{Value: v}
	if s.marks() {
		n.Marks[s.volume] = mark
	}
	x, _ := tree.Of(n) // what a volume holds a tree may hold
	if t, e := s.tree.Put(at.path(), x); e == api.OK {
		s.tree = t
	}
}
