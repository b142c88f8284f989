package run

import (
	"twine/api"
	"twine/path"
)

// staging is the name of a volume's staging place.
const staging = ".twine"

func cleaning(v int) phase {
	return func(c *course) api.Reply { return c.clean(v) }
}

// clean does the one call that brings a volume's staging place nearer to an empty directory, if it isn't one.
func (s site) clean(v int) api.Reply {
	told, e := s.world.Stat(v, staging)
	switch {
	case e == api.ErrWorldNone:
		return cleaned(staging, s.world.Mkdir(v, staging))
	case e != api.OK:
		return fault(e)
	case told.Kind != api.Dir:
		return cleaned(staging, s.world.Remove(v, staging))
	}
	p, e := s.last(v, staging)
	switch {
	case e != api.OK:
		return fault(e)
	case p == staging:
		return api.Reply{}
	}
	return cleaned(p, s.world.Remove(v, p))
}

// last tells the last path of a directory and what is below it.
func (s site) last(v int, dir string) (string, api.Errno) {
	for {
		names, e := s.world.List(v, dir)
		if e != api.OK || len(names) == 0 {
			return dir, e
		}
		dir = path.Join([]string{dir, names[len(names)-1]})
		told, e := s.world.Stat(v, dir)
		if e != api.OK || told.Kind != api.Dir {
			return dir, e
		}
	}
}

// cleaned tells of a call for p.
func cleaned(p string, e api.Errno) api.Reply {
	if e != api.OK {
		return fault(e)
	}
	return api.Reply{Did: api.DidClean, Path: p}
}
