package store

import (
	"bytes"
	"encoding/binary"
	"fmt"
	"hash/crc32"
	"slices"
	"strings"
	"testing"

	"twine/api"
	"twine/codec"
	"twine/tree"
	"twine/world"
)

// This file: trees and worlds to try, all that can be told of a world, and loaders and savers written down plainly, call by call.

func dir(name string, mode int, kids ...api.Node) api.Node {
	return api.Node{Name: name, Value: api.Value{Kind: api.Dir, Mode: mode}, Kids: kids}
}

func file(name string, mode, size int, marks ...int) api.Node {
	n := api.Node{Name: name, Value: api.Value{Kind: api.File, Mode: mode, Size: size, Sum: [32]byte{byte(size), 7, 31: 1}}}
	if len(marks) > 0 {
		n.Marks = [2]api.Mark{{Number: marks[0], Stamp: marks[1]}, {Number: marks[2], Stamp: marks[3]}}
	}
	return n
}

func link(name string, size int) api.Node {
	return api.Node{Name: name, Value: api.Value{Kind: api.Link, Size: size, Sum: [32]byte{9, 31: 0xFF}}}
}

// some: each kind, modes known and unknown, marks; 8 nodes.
func some() api.Node {
	return dir("", 7,
		dir("a", 5, dir("b", api.Unknown), file("x", api.Unknown, 0, 1, 2, 0, 0), link("z", 1)),
		file("f", 6, 300, 4, 200, 5, 6),
		link("l", api.MaxTarget),
		file("\xff", 0, 1),
	)
}

// wide: a root with so many files.
func wide(count int) api.Node {
	n := dir("", 7)
	for i := range count {
		n.Kids = append(n.Kids, file(fmt.Sprintf("n%06d", i), i%9, i, 1+i, 2+i, 3+i, 4+i))
	}
	return n
}

// archiveOf: a tree's bytes in a version.
func archiveOf(t testing.TB, n api.Node, version int) string {
	t.Helper()
	x, e := tree.Of(n)
	if e != api.OK {
		t.Fatalf("tree.Of: %d", e)
	}
	b, e := codec.Encode(x, version, api.MaxNodes)
	if e != api.OK {
		t.Fatalf("Encode: %d", e)
	}
	return string(b)
}

// resealed: an archive with one byte turned, and a right sum.
func resealed(s string, at int) string {
	b := []byte(s[:len(s)-4])
	b[at] ^= 1
	return string(binary.LittleEndian.AppendUint32(b, crc32.ChecksumIEEE(b)))
}

// text: so many bytes, no two pieces of them alike.
func text(n int) string {
	b := make([]byte, n)
	for i := range b {
		b[i] = byte(i + i/251 + 7*(i/512))
	}
	return string(b)
}

// spot: what stands at a place of S: nothing, a file with bytes, a link, a directory, one with something in it.
type spot struct {
	what  string
	kind  int
	data  string
	below bool
}

var (
	nothing  = spot{what: "nothing"}
	linked   = spot{what: "a link", kind: api.Link, data: "archive"}
	emptyDir = spot{what: "an empty directory", kind: api.Dir}
	fullDir  = spot{what: "a full directory", kind: api.Dir, below: true}
)

func filed(data string) spot {
	return spot{what: fmt.Sprintf("a file of %d bytes", len(data)), kind: api.File, data: data}
}

// spots: what may stand at `archive`.
func spots(t testing.TB) []spot {
	good := archiveOf(t, some(), 3)
	return []spot{
		nothing, linked, emptyDir, fullDir, filed(""), filed("abc"), filed("twne"), filed(text(600)),
		filed(archiveOf(t, some(), 1)), filed(archiveOf(t, some(), 2)), filed(good), filed(archiveOf(t, wide(40), 3)),
		filed(good[:len(good)-1]), filed(good + "x"), filed(resealed(good, 6)), filed(resealed(good, 10)),
	}
}

// freshSpots: what may stand at `archive.new`.
func freshSpots() []spot {
	return []spot{nothing, linked, emptyDir, fullDir, filed(""), filed(text(600))}
}

// put lays a spot down by calls, which are sure or not.
func (s spot) put(t testing.TB, w *world.World, p string, sure bool) {
	t.Helper()
	switch s.kind {
	case api.File:
		ok(t, w.Create(api.S, p), w.Append(api.S, p, []byte(s.data)))
		if sure {
			ok(t, w.Sync(api.S, p))
		}
	case api.Link:
		ok(t, w.Link(api.S, p, s.data))
	case api.Dir:
		ok(t, w.Mkdir(api.S, p))
	}
	if s.below {
		ok(t, w.Mkdir(api.S, p+"/x"))
	}
	if sure {
		ok(t, w.SyncVolume(api.S))
	}
}

// worldOf: a world with these on S, beside a file, and with something in A and B at the same paths. All is sure, or nothing is.
func worldOf(t testing.TB, caps api.Caps, at, atFresh spot, sure bool) *world.World {
	t.Helper()
	w, e := world.New(caps, 5, [3][]api.Thing{})
	ok(t, e)
	for _, v := range []int{api.A, api.B} {
		ok(t, w.Create(v, archive), w.Mkdir(v, fresh), w.Append(v, archive, []byte("users")))
	}
	at.put(t, w, archive, sure)
	atFresh.put(t, w, fresh, sure)
	w.Tick()
	return w
}

func empties(t testing.TB) *world.World {
	t.Helper()
	w, e := world.New(api.Caps{}, 1, [3][]api.Thing{})
	ok(t, e)
	return w
}

func ok(t testing.TB, l ...api.Errno) {
	t.Helper()
	for i, e := range l {
		if e != api.OK {
			t.Fatalf("call %d: %d", i, e)
		}
	}
}

func want[T comparable](t testing.TB, what string, got, want T) {
	t.Helper()
	if got != want {
		t.Errorf("%s: %#v, want %#v", what, got, want)
	}
}

// far is more than the calls that a test makes between two looks, or the changes of S that aren't sure then.
const far = 12

// told: all that can be told of a world: the clock, what stands there, what each fall leaves of it, and how its calls are rigged.
func told(w *world.World) string {
	b := fmt.Append(nil, w.Clock(), rigged(w, false), rigged(w, true), "\n")
	for v := range 3 {
		b = append(b, image(w, v)...)
	}
	for names := range far {
		b = append(b, image(w.After([3]int{names, names, names}, [3][]int{}), api.S)...)
	}
	b = append(b, image(w.After([3]int{far, far, far}, [3][]int{{far}, {far}, {1 << 20}}), api.A)...)
	return string(b)
}

func image(w *world.World, v int) string {
	var b strings.Builder
	for _, x := range w.Image(v) {
		fmt.Fprintf(&b, "%d %q %d %d %q %d %d %d\n", v, x.Path, x.Kind, x.Mode, x.Data, x.Sure, x.Number, x.Stamp)
	}
	return b.String()
}

// rigged: which of the next calls of S would fail.
func rigged(w *world.World, reading bool) string {
	c := w.Copy()
	var b strings.Builder
	for range 2 * far {
		e := c.Sync(api.S, "no")
		if reading {
			_, e = c.Stat(api.S, "no")
		}
		if e == api.ErrWorldFault {
			b.WriteByte('x')
		} else {
			b.WriteByte('.')
		}
	}
	return b.String()
}

// counted lets a world count the calls of S that are made from now on; made tells how many were.
func counted(w *world.World) {
	w.Rig(api.S, far, 1, 0, false)
	w.Rig(api.S, far, 1, 0, true)
}

func made(w *world.World) [2]int { return [2]int{far + 1 - left(w, false), far + 1 - left(w, true)} }

// left: with how many calls of S a rig is done.
func left(w *world.World, reading bool) int { return strings.LastIndex(rigged(w, reading), "x") + 1 }

// bytesAt: what a file on S has; false: no file stands there.
func bytesAt(w *world.World, p string) (string, bool) {
	for _, x := range w.Image(api.S) {
		if x.Path == p && x.Kind == api.File {
			return string(x.Data), true
		}
	}
	return "", false
}

// machine: a loader or a saver, or a plain one: a step, and what is told behind it.
type machine interface{ step() string }

type loaderMachine struct{ *Loader }

func (m loaderMachine) step() string {
	ended, err := m.Step()
	x, version := m.Tree()
	return loaderTold(ended, err, x, version)
}

func loaderTold(ended bool, err error, x *tree.Tree, version int) string {
	f, _ := err.(*api.Fault)
	s := fmt.Sprint(ended, err == nil)
	if f != nil {
		s += fmt.Sprintf(" at %d, %q, %d", f.At, f.Path, int(f.Err))
	}
	if x != nil {
		s += fmt.Sprintf(" %+v", x.Node())
	}
	return fmt.Sprint(s, " ", version)
}

type saverMachine struct{ *Saver }

func (m saverMachine) step() string {
	ended, e := m.Step()
	return fmt.Sprint(ended, int(e), m.Where())
}

// plainLoader: by P10.2 to P10.4's words.
type plainLoader struct {
	w     *world.World
	most  int
	steps int
	told  string // once it has ended
}

func (l *plainLoader) step() string {
	if l.told == "" {
		l.steps++
		switch l.steps {
		case 1:
			if e := l.w.SyncVolume(api.S); e != api.OK {
				l.told = loaderTold(false, &api.Fault{Err: e}, nil, 0)
				break
			}
			return loaderTold(false, nil, nil, 0)
		case 2:
			l.told = l.second()
		}
	}
	return l.told
}

func (l *plainLoader) second() string {
	at := func(p string, e api.Errno) string { return loaderTold(false, &api.Fault{Path: p, Err: e}, nil, 0) }
	_, e := l.w.Stat(api.S, "archive.new")
	if e != api.OK && e != api.ErrWorldNone {
		return at("archive.new", e)
	}
	if e == api.OK {
		if e := l.w.Remove(api.S, "archive.new"); e != api.OK {
			return at("archive.new", e)
		}
	}
	s, e := l.w.Stat(api.S, "archive")
	if e == api.ErrWorldNone {
		x, _ := tree.Of(dir("", 8))
		return loaderTold(true, nil, x, 0)
	}
	if e != api.OK {
		return at("archive", e)
	}
	if s.Kind != api.File {
		return at("archive", 100)
	}
	if e := l.w.Sync(api.S, "archive"); e != api.OK {
		return at("archive", e)
	}
	b, e := l.w.Read(api.S, "archive", s.Number, 0, s.Size)
	if e != api.OK {
		return at("archive", e)
	}
	x, version, err := codec.Decode(b, l.most)
	return loaderTold(err == nil, err, x, version)
}

// plainSaver: by P10.5 to P10.7's words: all calls are laid down ahead.
type plainSaver struct {
	calls []func() api.Errno
	done  int
	err   api.Errno
}

func plainSave(w *world.World, text string) *plainSaver {
	const p = "archive.new"
	calls := []func() api.Errno{func() api.Errno { return w.Create(2, p) }}
	for piece := range slices.Chunk([]byte(text), 512) {
		calls = append(calls, func() api.Errno { return w.Append(2, p, bytes.Clone(piece)) })
	}
	calls = append(calls,
		func() api.Errno { return w.Sync(2, p) },
		func() api.Errno { return w.SyncVolume(2) },
		func() api.Errno { return w.Rename(2, p, "archive") },
		func() api.Errno { return w.SyncVolume(2) },
	)
	return &plainSaver{calls: calls}
}

func (s *plainSaver) step() string {
	if s.err == api.OK && s.done < len(s.calls) {
		s.err = s.calls[s.done]()
		if s.err == api.OK {
			s.done++
		}
	}
	return fmt.Sprint(s.done == len(s.calls), int(s.err), s.where())
}

func (s *plainSaver) where() int {
	switch len(s.calls) - s.done {
	case 0:
		return 2
	case 1:
		return 1
	}
	return 0
}

// pair: two worlds alike, with machines over the one and plain ones over the other.
type pair struct {
	w, plain *world.World
	machines [][2]machine
}

func paired(w *world.World) *pair { return &pair{w: w, plain: w.Copy()} }

func (p *pair) load(most int) {
	p.machines = append(p.machines, [2]machine{loaderMachine{Load(p.w, most)}, &plainLoader{w: p.plain, most: most}})
}

func (p *pair) save(text string) {
	p.machines = append(p.machines, [2]machine{saverMachine{Save(p.w, []byte(text))}, plainSave(p.plain, text)})
}

// step lets one of the machines do a step in both worlds, and looks that both tell the same.
func (p *pair) step(t testing.TB, what string, i int) bool {
	t.Helper()
	got, wanted := p.machines[i][0].step(), p.machines[i][1].step()
	if got != wanted {
		t.Errorf("%s: machine %d: %s\nwant %s", what, i, got, wanted)
	}
	return got == wanted
}

// near looks, less dearly, that S holds the same in both worlds.
func (p *pair) near(t testing.TB, what string) bool {
	t.Helper()
	got, wanted := image(p.w, api.S), image(p.plain, api.S)
	if got != wanted {
		t.Errorf("%s: S holds\n%s\nwant\n%s", what, got, wanted)
	}
	return got == wanted
}

// alike looks that both worlds are the same still.
func (p *pair) alike(t testing.TB, what string) bool {
	t.Helper()
	got, wanted := told(p.w), told(p.plain)
	if got != wanted {
		t.Errorf("%s: the world is\n%s\nwant\n%s", what, got, wanted)
	}
	return got == wanted
}
