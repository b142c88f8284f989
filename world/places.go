package world

import (
	"twine/api"
	"twine/path"
)

// places cuts paths into their names, from the left. most: how many names one may have; root: one may be the root's.
func places(paths []string, most int, root bool) ([]place, api.Errno) {
	l := make([]place, 0, len(paths))
	for _, p := range paths {
		names, e := path.Split(p, most)
		if e != api.OK {
			return nil, e
		}
		if len(names) == 0 && !root {
			return nil, api.ErrWorldRoot
		}
		l = append(l, place{path: p, names: names})
	}
	return l, api.OK
}

func wrongTarget(target string) api.Errno {
	if rightTarget(target) {
		return api.OK
	}
	return api.ErrWorldTarget
}

func wrongMode(mode int) api.Errno {
	if rightMode(mode) {
		return api.OK
	}
	return api.ErrWorldMode
}
