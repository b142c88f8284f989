package run

import (
	"bytes"
	"maps"
	"math/rand"
	"slices"
	"strings"
	"testing"

	"twine/api"
	"twine/codec"
	"twine/rules"
	"twine/tree"
	"twine/world"
)

// This file: who makes up worlds, rules and what users do, by chance.

type author struct{ r *rand.Rand }

func authorOf(seed int) author { return author{rand.New(rand.NewSource(int64(seed)))} }

func (u author) of(l ...string) string { return l[u.r.Intn(len(l))] }

func (u author) one(l ...int) int { return l[u.r.Intn(len(l))] }

// rarely: once in n times.
func (u author) rarely(n int) bool { return u.r.Intn(n) == 0 }

func (u author) name() string { return u.of("a", "b", "c", "d", "x.o", "a.b", "\xff") }

func (u author) data() string {
	return u.of("", "p", "p", "q", "qq", "rrr", text(512), text(513), text(1100), strings.Repeat("s", 600))
}

func (u author) spot() spot {
	switch n := u.r.Intn(8); {
	case n < 3:
		return spot{api.Dir, u.one(7, 7, 5, 3), ""}
	case n < 4:
		return spot{api.Link, 0, u.of("x", "../y", strings.Repeat("t", 600))}
	}
	return spot{api.File, u.one(6, 6, 4, 7), u.data()}
}

func joined(dir, name string) string {
	if dir == "" {
		return name
	}
	return dir + "/" + name
}

// dirs: the directories of a picture, the root among them.
func (m picture) dirs() []string {
	var l []string
	for _, p := range slices.SortedFunc(maps.Keys(m), compare) {
		if m[p].kind == api.Dir {
			l = append(l, p)
		}
	}
	return l
}

func (m picture) drop(root string) {
	maps.DeleteFunc(m, func(p string, _ spot) bool { return lies(p, root) })
}

// grow puts things into a picture.
func (u author) grow(m picture, n int) {
	for range n {
		p := joined(u.of(m.dirs()...), u.name())
		if _, ok := m[p]; !ok && strings.Count(p, "/") < 4 {
			m[p] = u.spot()
		}
	}
}

// other: a picture that differs a little.
func (u author) other(m picture) picture {
	m = maps.Clone(m)
	for range u.r.Intn(6) {
		paths := slices.SortedFunc(maps.Keys(m), compare)
		p := u.of(paths...)
		s := m[p]
		switch {
		case s.kind == api.Dir && u.rarely(2):
			m[p] = spot{api.Dir, u.one(7, 5, 3), ""}
		case p == "":
			u.grow(m, 1)
		case u.rarely(2):
			m.drop(p)
		default:
			m.drop(p)
			m[p] = u.spot()
		}
		u.grow(m, u.r.Intn(2))
	}
	return m
}

// laid: a picture as things; numbers from a first one on, some bytes unsure.
func (u author) laid(m picture, number int) []api.Thing {
	var l []api.Thing
	for _, p := range slices.SortedFunc(maps.Keys(m), compare) {
		s := m[p]
		x := api.Thing{Path: p, Kind: s.kind, Mode: s.mode, Data: []byte(s.data), Number: number + len(l), Stamp: 1 + u.r.Intn(3)}
		if s.kind == api.File {
			x.Sure = len(s.data)
			if u.rarely(3) {
				x.Sure = u.r.Intn(len(s.data) + 1)
			}
		}
		l = append(l, x)
	}
	return l
}

// staged: what stands at a staging place.
func (u author) staged(m picture) {
	switch u.r.Intn(6) {
	case 0, 1:
	case 2:
		m[".twine"] = spot{api.File, 6, "stray"}
	case 3:
		m[".twine"] = spot{api.Link, 0, "stray"}
	case 4:
		m[".twine"] = spot{api.Dir, u.one(7, 0), ""}
	default:
		m[".twine"] = spot{api.Dir, 7, ""}
		for range u.r.Intn(6) {
			dirs := without(m, func(p string) bool { return !isStaging(p) }).dirs()
			m[joined(u.of(dirs...), u.of("1", "2", "a", "z"))] = u.spot()
		}
		for p := range maps.Clone(m) { // what lies in what was replaced goes with it
			if dir, _, ok := cutLast(p); ok && isStaging(p) && m[dir].kind != api.Dir {
				m.drop(p)
			}
		}
	}
}

func cutLast(p string) (string, string, bool) {
	i := strings.LastIndexByte(p, '/')
	if i < 0 {
		return "", p, false
	}
	return p[:i], p[i+1:], true
}

// plot: how a world begins.
type plot struct {
	caps api.Caps
	a, b picture
	s    []api.Thing
	most int
}

// plot makes up two replicas and an archive that come from one picture.
func (u author) plot(t testing.TB) plot {
	base := picture{"": {api.Dir, 7, ""}}
	u.grow(base, 3+u.r.Intn(10))
	p := plot{a: u.other(base), b: u.other(base), most: u.one(api.MaxNodes, 100, 100, 12)}
	if !u.rarely(4) {
		p.s = archiveThing(u.archive(t, grown(t, u.laid(u.other(base), 1))))
	}
	u.staged(p.a)
	u.staged(p.b)
	return p
}

// archive: the bytes of a tree in some version, some modes unknown; without marks.
func (u author) archive(t testing.TB, x *tree.Tree) []byte {
	for q, v := range x.All() {
		if v.Kind != api.Link && u.rarely(8) {
			v.Mode = api.Unknown
			x, _ = x.Set(q, v, [2]api.Mark{})
		}
	}
	return encoded(t, x, u.one(1, 2, 3, 3))
}

func (p plot) world(t testing.TB, u author) *world.World {
	w, e := world.New(p.caps, 3, [3][]api.Thing{u.laid(p.a, 11), u.laid(p.b, 101), p.s})
	mustWant(t, "world.New", e, api.OK)
	return w
}

// crowded: a volume has little room.
func (u author) crowded(p *plot) {
	v := u.r.Intn(3)
	room := api.Room{}
	for _, x := range [3][]api.Thing{u.laid(p.a, 11), u.laid(p.b, 101), p.s}[v] {
		if x.Path != "" {
			room.Names++
		}
		if x.Kind == api.File {
			room.Bytes += len(x.Data)
		}
	}
	// 0 would be no bound.
	if u.rarely(2) {
		p.caps.Names[v] = max(room.Names+u.r.Intn(4), 1)
	} else {
		p.caps.Bytes[v] = max(room.Bytes+u.r.Intn(900), 1)
	}
}

func (u author) rules(t testing.TB) *rules.Rules {
	var l []string
	for range u.r.Intn(4) {
		l = append(l, u.of("skip ", "prefer a ", "prefer b ", "prefer a ", "prefer b ")+u.of("*.o", "a", "d/**", "*", "/b", "a*", "**/c", "/d/a"))
	}
	return parsed(t, strings.Join(l, "\n"))
}

// path: one at which something stands, one in a directory, or any; mostly none of the staging place's.
func (u author) path(w *world.World, v int) string {
	l := w.Image(v)
	p := l[u.r.Intn(len(l))].Path
	switch n := u.r.Intn(4); {
	case n == 0 || p == "" || isStaging(p) && !u.rarely(20):
		return u.name()
	case n == 1:
		return joined(p, u.name())
	}
	return p
}

// edit: what a user does; some edits are refused.
func (u author) edit(w *world.World, v int) api.Edit {
	e := api.Edit{
		Kind: u.one(api.EditMkdir, api.EditFile, api.EditFile, api.EditLink, api.EditWrite, api.EditWrite, api.EditAppend, api.EditChmod, api.EditChmod, api.EditRename, api.EditRename, api.EditExchange, api.EditRemove, api.EditRemove, api.EditSync, api.EditSettle),
		Path: u.path(w, v), To: u.path(w, v), Mode: u.one(7, 5, 6, 4), Data: []byte(u.data()),
	}
	if e.Kind == api.EditChmod && u.rarely(6) {
		e.Path = ""
	}
	return e
}

// damaged: an archive's bytes that are mostly refused.
func (u author) damaged(b []byte) []byte {
	b = bytes.Clone(b)
	switch u.r.Intn(3) {
	case 0:
		return b[:u.r.Intn(len(b)+1)]
	case 1:
		b[u.r.Intn(len(b))] ^= 1 << u.r.Intn(8)
		return b
	}
	return append(b, 0)
}

// odd: S holds what no run left there.
func (u author) odd(t testing.TB, p *plot) {
	switch u.r.Intn(7) {
	case 0:
		p.s = things(201, "archive@7")
	case 1:
		p.s = things(201, "archive>to")
	case 2:
		p.s = things(201, "archive@7 archive/x:6=abc other:6=mine")
	case 3:
		p.s = append(p.s, things(210, "archive.new:6=half other:6=mine")...)
	case 4:
		p.s = append(p.s, things(210, "archive.new@6 d@5 d/archive:7=mine")...)
	case 5:
		p.s = append(p.s, things(210, "archive.new@6 archive.new/x:6=abc")...)
	default:
		x := treeOf(t, "a@7 b:6=p")
		b, _ := codec.Encode(x, 3, api.MaxNodes)
		p.s = archiveThing(u.damaged(b))
	}
}

// strange: an archive of what A has, whose marks are those of A's and B's files, and whose digests are often wrong.
func (u author) strange(t testing.TB, a, b []api.Thing) []byte {
	x := grown(t, slices.DeleteFunc(slices.Clone(a), func(y api.Thing) bool { return isStaging(y.Path) }))
	others := map[string]api.Thing{}
	for _, y := range b {
		others[y.Path] = y
	}
	for _, y := range a {
		if y.Kind != api.File || isStaging(y.Path) || u.rarely(4) {
			continue
		}
		v, m := valueOf(y), [2]api.Mark{{Number: y.Number, Stamp: y.Stamp}}
		if z := others[y.Path]; z.Kind == api.File {
			m[1] = api.Mark{Number: z.Number, Stamp: z.Stamp}
		}
		if u.rarely(2) {
			v.Sum[3]++
		}
		x, _ = x.Set(y.Path, v, m)
	}
	return encoded(t, x, 3)
}
