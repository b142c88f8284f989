package audit

import (
	"bytes"

	"twine/api"
	"twine/path"
)

// picture: a volume's things by their paths, the root among them.
type picture map[string]api.Thing

// numbers: those of things that were seen.
type numbers map[int]struct{}

// picturesOf tells the volumes' pictures; false, if the things can't be theirs.
func picturesOf(vols [3][]api.Thing) ([3]picture, bool) {
	var all [3]picture
	seen := numbers{} // one for all three: no number stands twice in them
	for v, l := range vols {
		m, ok := pictureOf(l, seen)
		if !ok {
			return [3]picture{}, false
		}
		all[v] = m
	}
	return all, true
}

// pictureOf tells the picture of things; false, if they can't be a volume's. Their numbers are seen then.
func pictureOf(l []api.Thing, seen numbers) (picture, bool) {
	m := make(picture, len(l)+1)
	for _, x := range l {
		_, twice := m[x.Path]
		_, known := seen[x.Number]
		if twice || known || !rightThing(x) {
			return nil, false
		}
		m[x.Path], seen[x.Number] = x, struct{}{}
	}
	if _, ok := m[""]; !ok {
		m[""] = api.Thing{Kind: api.Dir, Mode: 7}
	}
	return m, m.hangs()
}

// hangs tells whether what is above each thing is a directory; above the root is the root, so that it is one, too. It is asked of all things at once, since their order is free.
func (m picture) hangs() bool {
	for p := range m {
		above, _ := path.Above(p)
		if m[above].Kind != api.Dir {
			return false
		}
	}
	return true
}

// rightThing tells whether a thing, by itself, can be a volume's.
func rightThing(x api.Thing) bool {
	return rightPath(x.Path) && rightKind(x) && within(x.Number, 1, api.MaxStamp) && within(x.Stamp, 1, api.MaxStamp)
}

func rightPath(p string) bool {
	most := api.MaxDepth
	if path.Under(p, staging) {
		most = api.MaxWay
	}
	_, e := path.Split(p, most)
	return e == api.OK
}

func rightKind(x api.Thing) bool {
	switch x.Kind {
	case api.Dir:
		return rightMode(x.Mode) && len(x.Data) == 0 && x.Sure == 0
	case api.File:
		return rightMode(x.Mode) && len(x.Data) <= api.MaxSize && within(x.Sure, 0, len(x.Data))
	case api.Link:
		return x.Mode == 0 && rightTarget(x.Data) && x.Sure == 0
	}
	return false
}

func rightMode(mode int) bool { return within(mode, 0, 7) }

func rightTarget(b []byte) bool {
	return within(len(b), 1, api.MaxTarget) && bytes.IndexByte(b, 0) < 0
}

func within(n, least, most int) bool { return least <= n && n <= most }
