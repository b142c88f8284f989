package audit

import (
	"maps"
	"slices"

	"twine/api"
	"twine/path"
	"twine/tree"
)

// findings: what is wrong in a volume, by path.
type findings map[string]api.Errno

// note keeps at each path what was noted first.
func (f findings) note(p string, e api.Errno) {
	if _, ok := f[p]; !ok {
		f[p] = e
	}
}

// onArchive notes what is wrong at volume S's two places; e: why what stands at the archive's is none.
func (f findings) onArchive(m picture, e api.Errno) {
	if e != api.OK {
		f.note(archive, e)
	}
	if _, ok := m[fresh]; ok {
		f.note(fresh, api.ErrAuditLeft)
	}
}

// leftOver notes what a run left in the staging place, and what stands in that place's stead.
func (f findings) leftOver(m picture) {
	for p, x := range m {
		if p == staging && x.Kind != api.Dir || p != staging && path.Under(p, staging) {
			f.note(p, api.ErrAuditLeft)
		}
	}
}

// against holds t, which x has at p, against what the archive has there; nil: nothing. (A file of x's that is as the archive has it is come to: all above it are directories in both.)
func (f findings) against(p string, x replica, t, o *tree.Tree) {
	switch {
	case isDir(t) && isDir(o):
		if mode := o.Value().Mode; mode != api.Unknown && t.Value().Mode != mode {
			f.note(p, api.ErrAuditUnlike)
		}
		f.inside(p, x, t, o)
	case !tree.Same(t, o, true):
		f.note(p, api.ErrAuditUnlike)
	case x.isUnsure(p):
		f.note(p, api.ErrAuditUnsure)
	}
}

// inside holds a directory's children against those of the archive's.
func (f findings) inside(p string, x replica, t, o *tree.Tree) {
	for name, s := range t.Children() {
		other, _ := o.Sub(name)
		f.against(below(p, name), x, s, other)
	}
	for name, s := range o.Children() {
		if _, ok := t.Sub(name); !ok {
			f.against(below(p, name), x, nil, s)
		}
	}
}

// isUnsure tells whether a file stands at p, not all of whose bytes are sure.
func (x replica) isUnsure(p string) bool {
	thing := x.things[p]
	return thing.Kind == api.File && thing.Sure < len(thing.Data)
}

func isDir(t *tree.Tree) bool { return t != nil && t.Value().Kind == api.Dir }

func below(p, name string) string {
	if p == "" {
		return name
	}
	return path.Join([]string{p, name})
}

// told tells the findings of all volumes as faults, in their order.
func told(found [3]findings) []api.Fault {
	var l []api.Fault
	for v, f := range found {
		for _, p := range path.Sorted(slices.Collect(maps.Keys(f))) {
			l = append(l, api.Fault{At: v, Path: p, Err: f[p]})
		}
	}
	return l
}
