package audit

import (
	"bytes"
	"maps"
	"math/rand"
	"slices"
	"strings"
	"testing"

	"twine/api"
	"twine/rules"
	"twine/tree"
)

// This file: who makes up volumes and rules, by chance.

type author struct{ r *rand.Rand }

func authorOf(seed int) author { return author{rand.New(rand.NewSource(int64(seed)))} }

func (u author) of(l ...string) string { return l[u.r.Intn(len(l))] }

func (u author) one(l ...int) int { return l[u.r.Intn(len(l))] }

// rarely: once in n times.
func (u author) rarely(n int) bool { return u.r.Intn(n) == 0 }

// spot: what stands at a path.
type spot struct {
	kind, mode int
	data       string
}

// sketch: a volume as its paths.
type sketch map[string]spot

func (m sketch) paths() []string { return slices.SortedFunc(maps.Keys(m), compare) }

// dirs: the directories, the root among them.
func (m sketch) dirs() []string {
	return slices.DeleteFunc(m.paths(), func(p string) bool { return m[p].kind != api.Dir })
}

func (m sketch) drop(root string) {
	maps.DeleteFunc(m, func(p string, _ spot) bool { return lies(p, root) })
}

func joined(dir, name string) string {
	if dir == "" {
		return name
	}
	return dir + "/" + name
}

func (u author) name() string {
	return u.of("a", "b", "c", "d", "a", "b", "c", "d", "x.o", "a.b", "\xff", ".twin", ".twine.o")
}

func (u author) data() string {
	return u.of("", "p", "p", "q", "qq", "rrr", text(512), text(513), text(1100), strings.Repeat("s", 600))
}

func (u author) spot() spot {
	switch n := u.r.Intn(8); {
	case n < 3:
		return spot{api.Dir, u.one(7, 7, 5, 3), ""}
	case n < 4:
		return spot{api.Link, 0, u.of("x", "../y", strings.Repeat("t", 600))}
	}
	return spot{api.File, u.one(6, 6, 4, 7), u.data()}
}

// grow puts things into a sketch; below the root's children the staging place's name is one as any other.
func (u author) grow(m sketch, n int) {
	for range n {
		dir := u.of(m.dirs()...)
		name := u.name()
		if dir != "" && u.rarely(8) {
			name = ".twine"
		}
		p := joined(dir, name)
		if _, ok := m[p]; !ok && strings.Count(p, "/") < 4 {
			m[p] = u.spot()
		}
	}
}

// other: a sketch that differs a little.
func (u author) other(m sketch) sketch {
	m = maps.Clone(m)
	for range u.r.Intn(6) {
		p := u.of(m.paths()...)
		switch {
		case m[p].kind == api.Dir && u.rarely(2):
			m[p] = spot{api.Dir, u.one(7, 5, 3), ""}
		case p == "":
			u.grow(m, 1)
		case u.rarely(2):
			m.drop(p)
		default:
			m.drop(p)
			m[p] = u.spot()
		}
		u.grow(m, u.r.Intn(2))
	}
	return m
}

// stage puts something at the staging place.
func (u author) stage(m sketch) {
	switch u.r.Intn(6) {
	case 0, 1:
	case 2:
		m[".twine"] = spot{api.File, 6, "stray"}
	case 3:
		m[".twine"] = spot{api.Link, 0, "stray"}
	case 4:
		m[".twine"] = spot{api.Dir, u.one(7, 0), ""}
	default:
		m[".twine"] = spot{api.Dir, 7, ""}
		for range u.r.Intn(6) {
			staged := maps.Clone(m)
			maps.DeleteFunc(staged, func(p string, _ spot) bool { return !isStaging(p) })
			p := joined(u.of(staged.dirs()...), u.of("1", "2", "a", "x.o"))
			if _, ok := m[p]; !ok {
				m[p] = u.spot()
			}
		}
	}
}

// laid: a sketch as things; numbers from a first one on, some bytes unsure.
func (u author) laid(m sketch, number int) []api.Thing {
	var l []api.Thing
	for _, p := range m.paths() {
		s := m[p]
		x := api.Thing{Path: p, Kind: s.kind, Mode: s.mode, Data: []byte(s.data), Number: number + len(l), Stamp: 1 + u.r.Intn(3)}
		if s.kind == api.File {
			x.Sure = len(s.data)
			if u.rarely(3) {
				x.Sure = u.r.Intn(len(s.data) + 1)
			}
		}
		l = append(l, x)
	}
	return l
}

// mixed: things in another order; now and then the root's is left out, if it is as any root.
func (u author) mixed(l []api.Thing) []api.Thing {
	l = slices.Clone(l)
	if u.rarely(2) {
		l = slices.DeleteFunc(l, func(x api.Thing) bool { return x.Path == "" && x.Mode == 7 })
	}
	u.r.Shuffle(len(l), func(i, j int) { l[i], l[j] = l[j], l[i] })
	return l
}

func (m sketch) values() values {
	l := values{}
	for p, s := range m {
		l[p] = valued(api.Thing{Kind: s.kind, Mode: s.mode, Data: []byte(s.data)})
	}
	return l
}

// remembered: an archive's tree, some modes unknown; without marks.
func (u author) remembered(t testing.TB, m sketch) *tree.Tree {
	l := m.values()
	for _, p := range l.paths() {
		if v := l[p]; v.Kind != api.Link && u.rarely(8) {
			v.Mode = api.Unknown
			l[p] = v
		}
	}
	return l.tree(t)
}

// marked: a tree whose files have marks, of things that never were.
func (u author) marked(t testing.TB, x *tree.Tree) *tree.Tree {
	for p, v := range x.All() {
		if v.Kind == api.File && !u.rarely(3) {
			var e api.Errno
			x, e = x.Set(p, v, [2]api.Mark{{Number: 90001, Stamp: 2}, {Number: 90002, Stamp: 1}})
			mustWant(t, "Set", e, api.OK)
		}
	}
	return x
}

// scene: three volumes, and what is asked of them.
type scene struct {
	vols  [3][]api.Thing
	rules *rules.Rules
	most  int
}

// scene makes up two replicas and an archive without marks that come from one sketch. What it makes a world takes, with a clock of 3.
func (u author) scene(t testing.TB) scene {
	base := sketch{"": {api.Dir, 7, ""}}
	u.grow(base, 3+u.r.Intn(10))
	a, b := u.other(base), u.other(base)
	u.stage(a)
	u.stage(b)
	s := scene{rules: u.rules(t), most: u.one(api.MaxNodes, 100, 100, 12)}
	s.vols = [3][]api.Thing{u.mixed(u.laid(a, 1001)), u.mixed(u.laid(b, 2001)), nil}
	if !u.rarely(4) {
		s.vols[api.S] = archiveThing(encoded(t, u.remembered(t, u.other(base)), u.one(1, 2, 3, 3)))
	}
	return s
}

// odd: S holds what no run left there, or an archive with marks.
func (u author) odd(t testing.TB, s *scene) {
	x := u.remembered(t, sketch{"": {api.Dir, 7, ""}, "a": {api.Dir, 7, ""}, "b": {api.File, 6, "p"}, ".twine": {api.File, 6, "stray"}})
	switch u.r.Intn(8) {
	case 0:
		s.vols[api.S] = things(301, u.of("archive@7", "archive>to", "archive@7 archive/x:6=abc other:6=mine", "@5 other:6=mine"))
	case 1:
		s.vols[api.S] = slices.Concat(s.vols[api.S], things(310, u.of("archive.new:6=half other:6=mine", "archive.new@6 d@5 d/archive:7=mine", "archive.new>to", "archive.new@6 archive.new/x:6=abc")))
	case 2, 3:
		s.vols[api.S] = archiveThing(u.damaged(encoded(t, x, u.one(1, 2, 3))))
	case 4, 5:
		s.vols[api.S] = archiveThing(encoded(t, u.marked(t, x), 3))
	}
}

// damaged: an archive's bytes that are mostly refused.
func (u author) damaged(b []byte) []byte {
	b = bytes.Clone(b)
	switch u.r.Intn(5) {
	case 0:
		return b[:u.r.Intn(len(b)+1)]
	case 3:
		return resummed(b, u.r.Intn(6))
	case 1:
		b[u.r.Intn(len(b))] ^= 1 << u.r.Intn(8)
		return b
	case 2:
		return append(b, 0)
	}
	return resummed(b, u.r.Intn(len(b)-4))
}

func (u author) rules(t testing.TB) *rules.Rules {
	var l []string
	for range u.r.Intn(4) {
		l = append(l, u.of("skip ", "prefer a ", "prefer b ", "prefer a ", "prefer b ")+u.of("*.o", "a", "d/**", "*", "/b", "a*", "**/c", "/d/a", ".twine", "/.twine/**"))
	}
	return parsed(t, strings.Join(l, "\n"))
}
