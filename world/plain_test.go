package world

import (
	"fmt"
	"maps"
	"slices"
	"strings"
	"testing"

	"twine/api"
)

// This file: a world reckoned plainly: each volume as a flat list of paths, its changes as functions that are done to such a list by paths, and nothing ever forgotten.

// named: what stands at a path, as far as names, modes and links go.
type named struct {
	number, kind, mode int
	target             string
}

// body: what a thing has beside that, wherever it is.
type body struct {
	data        string
	sure, stamp int
	mode        int // the last one that it had
}

type plainVolume struct {
	sure, now map[string]named
	done      []func(map[string]named)
	bodies    map[int]*body
	bytes     int // its bounds
	names     int
	rigs      map[bool][3]int
}

type plainWorld struct {
	clock, last    int
	claims, holder int
	volumes        [3]*plainVolume
}

// plainNew: things must be right.
func plainNew(caps api.Caps, clock int, things [3][]api.Thing) *plainWorld {
	w := &plainWorld{clock: clock}
	for _, l := range things {
		for _, t := range l {
			w.last = max(w.last, t.Number)
		}
	}
	for v, l := range things {
		x := &plainVolume{now: map[string]named{}, bodies: map[int]*body{}, bytes: caps.Bytes[v], names: caps.Names[v], rigs: map[bool][3]int{}}
		if x.bytes == 0 {
			x.bytes = 1 << 60
		}
		if x.names == 0 {
			x.names = 1 << 21
		}
		for _, t := range l {
			n := named{number: t.Number, kind: t.Kind, mode: t.Mode}
			b := &body{sure: t.Sure, stamp: t.Stamp, mode: t.Mode}
			if t.Kind == api.Link {
				n.target = string(t.Data)
			} else {
				b.data = string(t.Data)
			}
			x.now[t.Path], x.bodies[t.Number] = n, b
		}
		if _, ok := x.now[""]; !ok {
			w.last++
			x.now[""] = named{number: w.last, kind: api.Dir, mode: 7}
			x.bodies[w.last] = &body{stamp: clock, mode: 7}
		}
		x.sure = maps.Clone(x.now)
		w.volumes[v] = x
	}
	return w
}

func (w *plainWorld) copy() *plainWorld {
	c := *w
	for v, x := range w.volumes {
		y := *x
		y.sure, y.now, y.rigs, y.done = maps.Clone(x.sure), maps.Clone(x.now), maps.Clone(x.rigs), slices.Clone(x.done)
		y.bodies = map[int]*body{}
		for n, b := range x.bodies {
			d := *b
			y.bodies[n] = &d
		}
		c.volumes[v] = &y
	}
	return &c
}

// plainPaths: all paths of a list, rising name by name. (A name has no byte 0, and none is below that.)
func plainPaths(m map[string]named) []string {
	var l []string
	for p := range m {
		l = append(l, strings.ReplaceAll(p, "/", "\x00"))
	}
	slices.Sort(l)
	for i, p := range l {
		l[i] = strings.ReplaceAll(p, "\x00", "/")
	}
	return l
}

func plainSplit(p string) []string {
	if p == "" {
		return nil
	}
	return strings.Split(p, "/")
}

func (w *plainWorld) image(v int) []api.Thing {
	var l []api.Thing
	if v < 0 || v > 2 {
		return l
	}
	x := w.volumes[v]
	for _, p := range plainPaths(x.now) {
		n := x.now[p]
		b := x.bodies[n.number]
		l = append(l, api.Thing{Path: p, Kind: n.kind, Mode: n.mode, Data: []byte(b.data + n.target), Sure: b.sure, Number: n.number, Stamp: b.stamp})
	}
	return l
}

func (w *plainWorld) fall(names [3]int, keep [3][]int) {
	w.clock++
	w.holder = 0
	for v, x := range w.volumes {
		for i, change := range x.done {
			if i < names[v] {
				change(x.sure)
			}
		}
		x.now, x.done, x.rigs = maps.Clone(x.sure), nil, map[bool][3]int{}
		file := 0
		for _, p := range plainPaths(x.now) {
			n := x.now[p]
			b := x.bodies[n.number]
			was := *b
			if n.kind == api.File {
				left := 0
				if len(keep[v]) > 0 {
					left = keep[v][file%len(keep[v])]
				}
				for len(b.data) > b.sure && len(b.data)-b.sure > left {
					b.data = b.data[:len(b.data)-1]
				}
				b.sure = len(b.data)
				file++
			}
			b.mode = n.mode
			if b.data != was.data || b.mode != was.mode {
				b.stamp = w.clock
			}
		}
	}
}

func (x *plainVolume) change(do func(map[string]named)) {
	do(x.now)
	x.done = append(x.done, do)
}

// plainBelow: is p below q?
func plainBelow(p, q string) bool { return strings.HasPrefix(p, q+"/") }

// plainForm: the error of a path.
func plainForm(p string, most int) api.Errno {
	l := plainSplit(p)
	if len(l) > most {
		return api.ErrPathDeep
	}
	for _, n := range l {
		if n == "" || n == "." || n == ".." || len(n) > 255 || strings.Contains(n, "\x00") {
			return api.ErrPathName
		}
	}
	return api.OK
}

// plainWay: is all that is above p a directory?
func (x *plainVolume) plainWay(p string) bool {
	l := plainSplit(p)
	for i := range l {
		if x.now[strings.Join(l[:i], "/")].kind != api.Dir {
			return false
		}
	}
	return true
}

func (x *plainVolume) all() int {
	n := 0
	for _, it := range x.now {
		n += len(x.bodies[it.number].data)
	}
	return n
}

// asked: a call, or an edit, told in one form: what it is about, and what must be, ahead of what it does.
type asked struct {
	what    string
	volume  int
	paths   []string
	target  *string
	mode    *int
	user    bool
	data    string
	number  int
	stamp   int
	off, n  int
	reading bool
	rootToo bool
	twice   bool // something at its path is wrong
}

// admit: P9.3's 1 to 4, or P9.7's.
func (w *plainWorld) admit(a asked) api.Errno {
	most, volumes := 66, 3
	if a.user {
		most, volumes = 64, 2
	}
	if a.volume < 0 || a.volume >= volumes {
		return api.ErrWorldVolume
	}
	if a.what == "noedit" {
		return api.ErrWorldEdit
	}
	for _, p := range a.paths {
		if e := plainForm(p, most); e != api.OK {
			return e
		}
		if p == "" && !a.rootToo {
			return api.ErrWorldRoot
		}
		if a.user && (p == ".twine" || plainBelow(p, ".twine")) {
			return api.ErrWorldTaken
		}
	}
	if t := a.target; t != nil && (*t == "" || len(*t) > 4095 || strings.Contains(*t, "\x00")) {
		return api.ErrWorldTarget
	}
	if m := a.mode; m != nil && (*m < 0 || *m > 7) {
		return api.ErrWorldMode
	}
	x := w.volumes[a.volume]
	if !a.user && x.fails(a.reading) {
		return api.ErrWorldFault
	}
	return x.there(a)
}

func (x *plainVolume) fails(reading bool) bool {
	r := x.rigs[reading]
	defer func() { x.rigs[reading] = r }()
	if r[0] > 0 {
		r[0]--
	} else if r[1] > 0 {
		r[1]--
		return true
	}
	return false
}

func (x *plainVolume) there(a asked) api.Errno {
	for _, p := range a.paths {
		if !x.plainWay(p) {
			return api.ErrWorldWay
		}
	}
	for i, p := range a.paths {
		_, ok := x.now[p]
		if a.twice && ok {
			return api.ErrWorldTwice
		}
		if !a.twice && !ok && !(a.what == "rename" && i == 1) {
			return api.ErrWorldNone
		}
	}
	return api.OK
}

// do does a call or an edit, and tells what it answers: the error, and what was read.
func (w *plainWorld) do(a asked) (string, api.Errno) {
	e := w.admit(a)
	if e == api.ErrWorldFault && a.what == "append" {
		x := w.volumes[a.volume]
		if x.there(a) == api.OK {
			a.data = a.data[:min(x.rigs[false][2], len(a.data))]
			w.act(a)
		}
	}
	if e != api.OK {
		return "", e
	}
	return w.act(a)
}

func (w *plainWorld) act(a asked) (string, api.Errno) {
	x := w.volumes[a.volume]
	var it named
	var b *body
	if len(a.paths) > 0 {
		it = x.now[a.paths[0]]
		b = x.bodies[it.number]
	}
	switch a.what {
	case "mkdir", "link", "create":
		return "", w.bring(x, a)
	case "append", "write":
		return "", w.lay(x, a, it, b)
	case "chmod":
		if it.kind == api.Link {
			return "", api.ErrWorldKind
		}
		b.stamp, b.mode = w.clock, *a.mode
		x.change(func(m map[string]named) {
			n := m[a.paths[0]]
			n.mode = *a.mode
			m[a.paths[0]] = n
		})
	case "sync":
		if it.kind != api.File {
			return "", api.ErrWorldKind
		}
		b.sure = len(b.data)
	case "syncthing":
		for _, n := range x.now {
			if n.number == a.number && n.kind == api.File && x.bodies[n.number].stamp == a.stamp {
				x.bodies[n.number].sure = len(x.bodies[n.number].data)
				return "", api.OK
			}
		}
		return "", api.ErrWorldOther
	case "rename", "exchange":
		return "", x.move(a)
	case "remove":
		for p := range x.now {
			if plainBelow(p, a.paths[0]) {
				return "", api.ErrWorldRest
			}
		}
		x.change(func(m map[string]named) { delete(m, a.paths[0]) })
	case "syncvolume", "settle":
		x.sure, x.done = maps.Clone(x.now), nil
		for _, n := range x.now {
			if b := x.bodies[n.number]; a.what == "settle" && n.kind == api.File {
				b.sure = len(b.data)
			}
		}
	default:
		return w.look(a, it, b)
	}
	return "", api.OK
}

func (w *plainWorld) bring(x *plainVolume, a asked) api.Errno {
	if len(x.now)-1 >= x.names || a.user && a.what == "create" && x.all()+len(a.data) > x.bytes {
		return api.ErrWorldFull
	}
	w.last++
	n := named{number: w.last, mode: 7, kind: map[string]int{"mkdir": api.Dir, "link": api.Link, "create": api.File}[a.what]}
	if a.mode != nil {
		n.mode = *a.mode
	}
	if a.target != nil {
		n.mode, n.target = 0, *a.target
	}
	x.bodies[w.last] = &body{stamp: w.clock, mode: n.mode, data: a.data}
	x.change(func(m map[string]named) { m[a.paths[0]] = n })
	return api.OK
}

func (w *plainWorld) lay(x *plainVolume, a asked, it named, b *body) api.Errno {
	if it.kind != api.File {
		return api.ErrWorldKind
	}
	rest := x.all()
	if a.what == "write" {
		rest -= len(b.data)
	}
	if rest+len(a.data) > x.bytes {
		return api.ErrWorldFull
	}
	if a.what == "write" {
		*b = body{data: a.data, stamp: w.clock, mode: b.mode}
	} else if a.data != "" {
		b.data, b.stamp = b.data+a.data, w.clock
	}
	return api.OK
}

func (x *plainVolume) move(a asked) api.Errno {
	from, to := a.paths[0], a.paths[1]
	if plainBelow(from, to) || plainBelow(to, from) {
		return api.ErrWorldInside
	}
	if from == to {
		return api.OK
	}
	other, ok := x.now[to]
	if a.what == "rename" && ok && (other.kind == api.Dir || x.now[from].kind == api.Dir) {
		return api.ErrWorldKind
	}
	most := 66
	if a.user {
		most = 64
	}
	moved := func(m map[string]named) map[string]named {
		l := map[string]named{}
		for p, n := range m {
			switch {
			case p == from || plainBelow(p, from):
				l[to+p[len(from):]] = n
			case (p == to || plainBelow(p, to)) && a.what == "exchange":
				l[from+p[len(to):]] = n
			case p != to:
				l[p] = n
			}
		}
		return l
	}
	for p := range moved(x.now) {
		if (plainBelow(p, to) || a.what == "exchange" && plainBelow(p, from)) && len(plainSplit(p)) > most {
			return api.ErrWorldDeep
		}
	}
	x.change(func(m map[string]named) {
		l := moved(m)
		clear(m)
		maps.Copy(m, l)
	})
	return api.OK
}

func (w *plainWorld) look(a asked, it named, b *body) (string, api.Errno) {
	x := w.volumes[a.volume]
	switch a.what {
	case "stat":
		return fmt.Sprint(api.Stat{Kind: it.kind, Mode: it.mode, Size: len(b.data + it.target), Number: it.number, Stamp: b.stamp}), api.OK
	case "list":
		if it.kind != api.Dir {
			return "", api.ErrWorldKind
		}
		var l []string
		for p := range x.now {
			if i := strings.LastIndex("/"+p, "/"); p != "" && (p[:max(i-1, 0)] == a.paths[0]) {
				l = append(l, p[i:])
			}
		}
		slices.Sort(l)
		return fmt.Sprintf("%q", l), api.OK
	case "read":
		if it.number != a.number {
			return "", api.ErrWorldOther
		}
		if it.kind != api.File {
			return "", api.ErrWorldKind
		}
		var l []byte
		for i := range len(b.data) {
			if i >= a.off && len(l) < a.n {
				l = append(l, b.data[i])
			}
		}
		return string(l), api.OK
	}
	if it.kind != api.Link {
		return "", api.ErrWorldKind
	}
	return it.target, api.OK
}

// told: a picture in lines.
func told(l []api.Thing) string {
	var s []string
	for _, t := range l {
		s = append(s, fmt.Sprintf("%q %d %d %q %d %d %d", t.Path, t.Kind, t.Mode, t.Data, t.Sure, t.Number, t.Stamp))
	}
	return strings.Join(s, "\n")
}

// whole: all that a world tells of its things.
func whole(w *World) string {
	return fmt.Sprint(w.Clock(), "\nA\n", told(w.Image(api.A)), "\nB\n", told(w.Image(api.B)), "\nS\n", told(w.Image(api.S)))
}

func plainWhole(w *plainWorld) string {
	return fmt.Sprint(w.clock, "\nA\n", told(w.image(api.A)), "\nB\n", told(w.image(api.B)), "\nS\n", told(w.image(api.S)))
}

// made: a world that is taken.
func made(t testing.TB, caps api.Caps, clock int, things [3][]api.Thing) *World {
	t.Helper()
	w, e := New(caps, clock, things)
	if w == nil || e != api.OK {
		t.Fatalf("New: %d", e)
	}
	return w
}

// empties: a world without things, its clock at 1.
func empties(t testing.TB) *World {
	t.Helper()
	return made(t, api.Caps{}, 1, [3][]api.Thing{})
}

func want[T comparable](t testing.TB, what string, got, want T) {
	t.Helper()
	if got != want {
		t.Errorf("%s: %v, want %v", what, got, want)
	}
}

// ok: calls that must go well.
func ok(t testing.TB, l ...api.Errno) {
	t.Helper()
	for i, e := range l {
		if e != api.OK {
			t.Fatalf("call %d: %d", i, e)
		}
	}
}
