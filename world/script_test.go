package world

import (
	"fmt"
	"math"
	"math/rand"
	"strings"
	"testing"

	"twine/api"
)

// This file: long scripts by chance, each step held against the plain world.

// ask makes the call, or the edit, that is asked for.
func ask(w *World, a asked) (string, api.Errno) {
	if a.user {
		return "", w.Edit(a.volume, editOf(a))
	}
	p, q := "", ""
	if len(a.paths) > 0 {
		p = a.paths[0]
	}
	if len(a.paths) > 1 {
		q = a.paths[1]
	}
	switch a.what {
	case "mkdir":
		return "", w.Mkdir(a.volume, p)
	case "link":
		return "", w.Link(a.volume, p, *a.target)
	case "create":
		return "", w.Create(a.volume, p)
	case "append":
		return "", w.Append(a.volume, p, []byte(a.data))
	case "chmod":
		return "", w.Chmod(a.volume, p, *a.mode)
	case "sync":
		return "", w.Sync(a.volume, p)
	case "syncthing":
		return "", w.SyncThing(a.volume, a.number, a.stamp)
	case "rename":
		return "", w.Rename(a.volume, p, q)
	case "exchange":
		return "", w.Exchange(a.volume, p, q)
	case "remove":
		return "", w.Remove(a.volume, p)
	case "syncvolume":
		return "", w.SyncVolume(a.volume)
	}
	return look(w, a, p)
}

func look(w *World, a asked, p string) (string, api.Errno) {
	switch a.what {
	case "stat":
		s, e := w.Stat(a.volume, p)
		if e != api.OK && s == (api.Stat{}) {
			return "", e
		}
		return fmt.Sprint(s), e
	case "list":
		l, e := w.List(a.volume, p)
		if e != api.OK && len(l) == 0 {
			return "", e
		}
		return fmt.Sprintf("%q", l), e
	case "read":
		b, e := w.Read(a.volume, p, a.number, a.off, a.n)
		return string(b), e
	}
	return w.Target(a.volume, p)
}

// editOf: the edit that is asked for; what its kind doesn't name is filled with what can't be.
func editOf(a asked) api.Edit {
	kinds := map[string]int{"mkdir": api.EditMkdir, "create": api.EditFile, "link": api.EditLink, "write": api.EditWrite, "append": api.EditAppend, "chmod": api.EditChmod, "rename": api.EditRename, "exchange": api.EditExchange, "remove": api.EditRemove, "sync": api.EditSync, "settle": api.EditSettle, "noedit": a.number}
	e := api.Edit{Kind: kinds[a.what], Path: "a//b", To: ".twine", Data: []byte("waste"), Mode: 99}
	if len(a.paths) > 0 {
		e.Path = a.paths[0]
	}
	if len(a.paths) > 1 {
		e.To = a.paths[1]
	}
	if a.target != nil {
		e.To = *a.target
	}
	if a.mode != nil {
		e.Mode = *a.mode
	}
	switch a.what {
	case "create", "write", "append":
		e.Data = []byte(a.data)
	}
	return e
}

// author: who makes up calls.
type author struct {
	r     *rand.Rand
	paths func(r *rand.Rand) string
}

// shallow: paths that often meet.
func shallow(r *rand.Rand) string {
	if r.Intn(60) == 0 {
		return []string{"", "/", "a/", "a//b", ".", "a/../b", "a\x00", strings.Repeat("n", 256), strings.Repeat("a/", 66) + "a"}[r.Intn(9)]
	}
	l := []string{"a", "b", "a.b", "c", ".twine", "\xff"}
	p := l[r.Intn(len(l))]
	for r.Intn(5) > 2 {
		p += "/" + l[r.Intn(3)]
	}
	return p
}

// deep: paths about as long as they may be.
func deep(r *rand.Rand) string {
	n := r.Intn(4)
	if r.Intn(3) > 0 {
		n = 59 + r.Intn(10)
	}
	p := "d" + strings.Repeat("/d", n)
	if r.Intn(4) == 0 {
		p = "." + "twine" + p[1:]
	}
	if r.Intn(3) == 0 {
		p = strings.TrimSuffix(p, "d") + "e"
	}
	return p
}

func (u author) volume() int {
	l := []int{0, 0, 0, 0, 0, 0, 1, 1, 1, 2, 2, 2, 0, 0, 1, -1, 3, math.MaxInt, math.MinInt}
	if n := u.r.Intn(200); n < len(l) {
		return l[n]
	}
	return u.r.Intn(3)
}

func (u author) text() string {
	return strings.Repeat(string(rune('a'+u.r.Intn(26))), u.r.Intn(4)*u.r.Intn(4))
}

// path: one at which something stands, one right below such a one, or any.
func (u author) path(w *plainWorld, v int) string {
	if n := u.r.Intn(5); n > 1 && v >= 0 && v < 3 {
		l := plainPaths(w.volumes[v].now)
		p := l[u.r.Intn(len(l))]
		if n == 4 {
			p = strings.TrimPrefix(p+"/"+u.name(), "/")
		}
		if p != "" {
			return p
		}
	}
	return u.paths(u.r)
}

func (u author) name() string { return string(rune('a' + u.r.Intn(5))) }

// next: a call or an edit. w tells what there is to be met.
func (u author) next(w *plainWorld) asked {
	r := u.r
	calls := []string{"mkdir", "mkdir", "link", "create", "create", "append", "append", "append", "append", "chmod", "sync", "sync", "syncthing", "rename", "rename", "exchange", "exchange", "remove", "stat", "list", "read", "read", "target"}
	edits := []string{"mkdir", "link", "create", "create", "write", "write", "append", "append", "chmod", "rename", "rename", "exchange", "remove", "sync"}
	if r.Intn(12) == 0 {
		calls, edits = []string{"syncvolume", "remove"}, []string{"settle", "noedit", "remove"}
	}
	a := asked{volume: u.volume(), user: r.Intn(3) == 0}
	a.what = calls[r.Intn(len(calls))]
	if a.user {
		a.what = edits[r.Intn(len(edits))]
		if a.volume == api.S && r.Intn(20) > 0 {
			a.volume = r.Intn(2)
		}
	}
	switch a.what {
	case "syncthing", "syncvolume", "settle", "noedit":
	default:
		a.paths = append(a.paths, u.path(w, a.volume))
	}
	switch a.what {
	case "rename", "exchange":
		a.paths = append(a.paths, u.path(w, a.volume))
	case "link":
		target := []string{"t", "../x", strings.Repeat("t", 4095), "t", "t", "", "a\x00", strings.Repeat("t", 4096)}[r.Intn(8)]
		a.target = &target
	case "noedit":
		a.number = []int{0, 12, -1, math.MaxInt, math.MinInt}[r.Intn(5)]
	}
	if a.what == "chmod" || a.user && (a.what == "mkdir" || a.what == "create") {
		mode := r.Intn(8)
		if r.Intn(20) == 0 {
			mode = []int{-1, 8, math.MaxInt, math.MinInt}[r.Intn(4)]
		}
		a.mode = &mode
	}
	if a.what == "write" || a.what == "append" || a.user && a.what == "create" {
		a.data = u.text()
	}
	a.twice = a.what == "mkdir" || a.what == "link" || a.what == "create"
	a.rootToo = a.what == "chmod" || !a.user && (a.what == "stat" || a.what == "list")
	if a.rootToo && r.Intn(5) == 0 {
		a.paths[0] = ""
	}
	a.reading = a.what == "stat" || a.what == "list" || a.what == "read" || a.what == "target"
	a.number, a.stamp = u.thing(w, a)
	a.off, a.n = r.Intn(8)-2, r.Intn(8)-2
	if r.Intn(9) == 0 {
		a.off, a.n = []int{math.MinInt, 0, 1, math.MaxInt}[r.Intn(4)], []int{math.MinInt, math.MaxInt}[r.Intn(2)]
	}
	return a
}

// thing: a number and a stamp that fit what the call is about, or not.
func (u author) thing(w *plainWorld, a asked) (int, int) {
	if a.what == "noedit" {
		return a.number, 0
	}
	if a.volume < 0 || a.volume > 2 || u.r.Intn(6) == 0 {
		return u.r.Intn(w.last+3) - 1, u.r.Intn(w.clock + 2)
	}
	x := w.volumes[a.volume]
	if len(a.paths) > 0 {
		return x.now[a.paths[0]].number, 0
	}
	for _, p := range plainPaths(x.now) {
		if n := x.now[p]; n.kind == api.File && u.r.Intn(3) == 0 {
			return n.number, x.bodies[n.number].stamp - u.r.Intn(5)/4
		}
	}
	number := u.r.Intn(w.last) + 1
	if b := x.bodies[number]; b != nil {
		return number, b.stamp
	}
	return number, w.clock
}

func (u author) survivors() ([3]int, [3][]int) {
	var names [3]int
	var keep [3][]int
	for v := range names {
		names[v] = u.r.Intn(12) - 2
		if u.r.Intn(6) == 0 {
			names[v] = []int{math.MinInt, math.MaxInt}[u.r.Intn(2)]
		}
		for range u.r.Intn(4) {
			keep[v] = append(keep[v], []int{0, 1, 2, 3, 9, -1, math.MaxInt, math.MinInt}[u.r.Intn(8)])
		}
	}
	return names, keep
}

// other: what is no call of a run and no edit; it tells what was answered.
func (u author) other(w *World, x *plainWorld) (string, string) {
	switch n := u.r.Intn(16); {
	case n < 5:
		w.Tick()
		x.clock++
	case n < 7:
		names, keep := u.survivors()
		w.Fall(names, keep)
		x.fall(names, keep)
	case n < 11:
		names, keep := u.survivors()
		y := x.copy()
		y.fall(names, keep)
		return whole(w.After(names, keep)), plainWhole(y)
	case n < 13:
		return u.claim(w, x)
	default:
		v, after, calls, part, reading := u.volume(), u.r.Intn(5)-1, u.r.Intn(4)-1, u.r.Intn(5)-1, u.r.Intn(3) == 0
		w.Rig(v, after, calls, part, reading)
		if v >= 0 && v < 3 {
			x.volumes[v].rigs[reading] = [3]int{max(after, 0), max(calls, 0), max(part, 0)}
		}
	}
	return "", ""
}

func (u author) claim(w *World, x *plainWorld) (string, string) {
	n := u.r.Intn(x.claims+3) - 1
	owns := fmt.Sprint(n != 0 && n == x.holder)
	got := fmt.Sprint(w.Owns(n))
	switch u.r.Intn(2) {
	case 0:
		w.Release(n)
		if n == x.holder {
			x.holder = 0
		}
	case 1:
		got += fmt.Sprint(w.Claim())
		if x.holder == 0 {
			x.claims++
			x.holder = x.claims
			owns += fmt.Sprint(x.holder)
		} else {
			owns += "0"
		}
	}
	return got, owns
}

// beginning: things of each kind, some of their bytes unsure.
func beginning() (api.Caps, int, [3][]api.Thing) {
	caps := api.Caps{Bytes: [3]int{12, 0, 20}, Names: [3]int{6, 0, 8}}
	return caps, 5, [3][]api.Thing{{
		{Path: "a/b", Kind: api.File, Mode: 6, Data: []byte("abcde"), Sure: 3, Number: 12, Stamp: 4},
		{Path: "a", Kind: api.Dir, Mode: 5, Number: 3, Stamp: 2},
		{Path: "c", Kind: api.Link, Data: []byte("a/b"), Number: 7, Stamp: 5},
	}, {
		{Path: "", Kind: api.Dir, Mode: 1, Number: 9, Stamp: 1},
		{Path: ".twine", Kind: api.Dir, Mode: 7, Number: 8, Stamp: 1},
		{Path: ".twine/a", Kind: api.File, Number: 1, Stamp: 5},
	}, nil}
}

// long: a beginning with ways that are about as long as may be.
func long() (api.Caps, int, [3][]api.Thing) {
	var things [3][]api.Thing
	number := 1
	for v, l := range [][]int{{60, 64}, {62, 66}, {64, 0}} {
		for i, n := range l {
			first := []string{"d", ".twine"}[i]
			for k := range n {
				things[v] = append(things[v], api.Thing{Path: first + strings.Repeat("/d", k), Kind: api.Dir, Mode: 7, Number: number, Stamp: 1})
				number++
			}
		}
	}
	return api.Caps{}, 1, things
}

func play(t *testing.T, what string, seed int64, steps int, w *World, x *plainWorld, u author) {
	t.Helper()
	for i := range steps {
		if u.r.Intn(4) == 0 {
			if got, wanted := u.other(w, x); got != wanted {
				t.Fatalf("%s, seed %d, step %d: %s\nwant %s", what, seed, i, got, wanted)
			}
		} else {
			a := u.next(x)
			wanted, we := x.do(a)
			got, e := ask(w, a)
			if got != wanted || e != we {
				t.Fatalf("%s, seed %d, step %d: %+v: %q, %d, want %q, %d", what, seed, i, a, got, e, wanted, we)
			}
		}
		if got, wanted := whole(w), plainWhole(x); got != wanted {
			t.Fatalf("%s, seed %d, step %d: %s\nwant %s", what, seed, i, got, wanted)
		}
	}
}

func TestP9_3Scripts(t *testing.T) {
	for seed := range int64(150) {
		caps, clock, things := beginning()
		u := author{rand.New(rand.NewSource(seed)), shallow}
		play(t, "shallow", seed, 300, made(t, caps, clock, things), plainNew(caps, clock, things), u)
	}
}

func TestP9_5DeepScripts(t *testing.T) {
	for seed := range int64(12) {
		caps, clock, things := long()
		u := author{rand.New(rand.NewSource(seed)), deep}
		play(t, "deep", seed, 150, made(t, caps, clock, things), plainNew(caps, clock, things), u)
	}
}
