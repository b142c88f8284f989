package stage

import (
	"crypto/sha256"
	"fmt"
	"strings"
	"testing"

	"twine/api"
	"twine/tree"
	"twine/world"
)

// This file: trees and worlds to try, all that can be told of a world, and a stage that is written down plainly: a flat list of things, all bytes kept.

func want[T comparable](t testing.TB, what string, got, wanted T) {
	t.Helper()
	if got != wanted {
		t.Errorf("%s: got %v, want %v", what, got, wanted)
	}
}

func wantText(t testing.TB, what, got, wanted string) {
	t.Helper()
	if got != wanted {
		t.Fatalf("%s: got\n%s\nwant\n%s", what, got, wanted)
	}
}

func wantOK(t testing.TB, what string, l ...api.Errno) {
	t.Helper()
	for i, e := range l {
		if e != api.OK {
			t.Fatalf("%s: call %d: %d", what, i, e)
		}
	}
}

// text: so many bytes, no two pieces of which are alike.
func text(size int) string {
	b := make([]byte, size)
	for i := range b {
		b[i] = byte(i*7 + i/512*31 + i/256)
	}
	return string(b)
}

// plainDigest: of bytes, by the library's sum.
func plainDigest(b string) [32]byte {
	var sums []byte
	for len(b) > 0 {
		n := min(len(b), 512)
		x := sha256.Sum256([]byte(b[:n]))
		sums, b = append(sums, x[:]...), b[n:]
	}
	return sha256.Sum256(sums)
}

func dir(name string, mode int, kids ...api.Node) api.Node {
	return api.Node{Name: name, Value: api.Value{Kind: api.Dir, Mode: mode}, Kids: kids}
}

func filed(name string, mode int, data string) api.Node {
	return api.Node{Name: name, Value: api.Value{Kind: api.File, Mode: mode, Size: len(data), Sum: plainDigest(data)}}
}

func link(name, target string) api.Node {
	return api.Node{Name: name, Value: api.Value{Kind: api.Link, Size: len(target), Sum: plainDigest(target)}}
}

// sized: a file's node that tells another size than its bytes have.
func sized(size int, n api.Node) api.Node {
	n.Value.Size = size
	return n
}

func treeOf(t testing.TB, n api.Node) *tree.Tree {
	t.Helper()
	x, e := tree.Of(n)
	wantOK(t, "tree.Of", e)
	return x
}

func dirAt(p string, mode, number int) api.Thing {
	return api.Thing{Path: p, Kind: api.Dir, Mode: mode, Number: number, Stamp: 1}
}

func fileAt(p string, mode int, data string, number int) api.Thing {
	return api.Thing{Path: p, Kind: api.File, Mode: mode, Data: []byte(data), Number: number, Stamp: 1}
}

func linkAt(p, target string, number int) api.Thing {
	return api.Thing{Path: p, Kind: api.Link, Data: []byte(target), Number: number, Stamp: 1}
}

// worldOf: a world whose A has these things, with `.twine` in B. Its clock is 3.
func worldOf(t testing.TB, caps api.Caps, things ...api.Thing) *world.World {
	t.Helper()
	w, e := world.New(caps, 3, [3][]api.Thing{things, {dirAt(".twine", 7, 1<<20)}})
	wantOK(t, "world.New", e)
	return w
}

// begun: a world whose A has what n tells at src, as far as data has its bytes (by the paths of n); B has `.twine`.
func begun(t testing.TB, src string, n api.Node, data map[string]string) *world.World {
	t.Helper()
	var l []api.Thing
	for i := range src {
		if src[i] == '/' {
			l = append(l, dirAt(src[:i], 7, 1+len(l)))
		}
	}
	for q, v := range treeOf(t, n).All() {
		x := api.Thing{Path: joined(src, q), Kind: v.Kind, Mode: v.Mode, Data: []byte(data[q]), Number: 1 + len(l), Stamp: 1}
		if x.Path != "" || x.Kind == api.Dir {
			l = append(l, x)
		}
	}
	return worldOf(t, api.Caps{}, l...)
}

// joined: the path of q below p, either of which may be the root's.
func joined(p, q string) string {
	if p == "" || q == "" {
		return p + q
	}
	return p + "/" + q
}

// lies tells whether p is root, or below it.
func lies(p, root string) bool {
	return root == "" || p == root || strings.HasPrefix(p, root+"/")
}

// valueOf: what a thing of a volume is worth.
func valueOf(x api.Thing) api.Value {
	switch x.Kind {
	case api.Dir:
		return api.Value{Kind: api.Dir, Mode: x.Mode}
	case api.Link:
		return api.Value{Kind: api.Link, Size: len(x.Data), Sum: plainDigest(string(x.Data))}
	}
	return api.Value{Kind: api.File, Mode: x.Mode, Size: len(x.Data), Sum: plainDigest(string(x.Data))}
}

func lineOf(q string, v api.Value) string {
	return fmt.Sprintf("%q %d.%d.%d %x\n", q, v.Kind, v.Mode, v.Size, v.Sum)
}

// values: a tree, a line a path, without marks.
func values(x *tree.Tree) string {
	var s strings.Builder
	for q, v := range x.All() {
		s.WriteString(lineOf(q, v))
	}
	return s.String()
}

// pictured: what a volume has at a path, as values of a tree is told; nothing: the empty text.
func pictured(w *world.World, v int, p string) string {
	var s strings.Builder
	for _, x := range w.Image(v) {
		if lies(x.Path, p) {
			s.WriteString(lineOf(strings.TrimPrefix(strings.TrimPrefix(x.Path, p), "/"), valueOf(x)))
		}
	}
	return s.String()
}

// scanned: the tree of what a volume has at a path; something stands there. The staging place is no part of it.
func scanned(t testing.TB, w *world.World, v int, p string) *tree.Tree {
	t.Helper()
	var x *tree.Tree
	for _, y := range w.Image(v) {
		if !lies(y.Path, p) || lies(y.Path, ".twine") && !lies(p, ".twine") {
			continue
		}
		one := treeOf(t, api.Node{Value: valueOf(y)})
		if y.Path == p {
			x = one
			continue
		}
		z, e := x.Put(strings.TrimPrefix(strings.TrimPrefix(y.Path, p), "/"), one)
		wantOK(t, "Put", e)
		x = z
	}
	return x
}

// staged: what B's staging place has, in one line: path, kind, mode, bytes, and how many of them are sure.
func staged(w *world.World) string {
	var l []string
	for _, x := range w.Image(api.B) {
		if strings.HasPrefix(x.Path, ".twine/") {
			l = append(l, fmt.Sprintf("%s %d.%d.%d.%d", x.Path[len(".twine/"):], x.Kind, x.Mode, len(x.Data), x.Sure))
		}
	}
	return strings.Join(l, ", ")
}

// far is more than the calls that a test makes of a volume between two looks, or the changes of names that aren't sure then.
const far = 24

// image: a volume, what is told of it all.
func image(w *world.World, v int) string {
	var b strings.Builder
	for _, x := range w.Image(v) {
		fmt.Fprintf(&b, "%d %q %d.%d %d %x %d #%d @%d\n", v, x.Path, x.Kind, x.Mode, len(x.Data), sha256.Sum256(x.Data), x.Sure, x.Number, x.Stamp)
	}
	return b.String()
}

func images(w *world.World) string { return image(w, 0) + image(w, 1) + image(w, 2) }

// rigged: which of the next calls of a volume would fail.
func rigged(w *world.World, v int, reading bool) string {
	c := w.Copy()
	var b strings.Builder
	for range far {
		e := c.Sync(v, "no")
		if reading {
			_, e = c.Stat(v, "no")
		}
		if e == api.ErrWorldFault {
			b.WriteByte('x')
		} else {
			b.WriteByte('.')
		}
	}
	return b.String()
}

// told: all that can be told of a world: the clock, what stands there, how its calls are rigged, and what falls leave of it, by which the order of its changes of names shows.
func told(w *world.World) string {
	var b strings.Builder
	fmt.Fprintln(&b, "clock", w.Clock())
	b.WriteString(images(w))
	for v := range 3 {
		fmt.Fprintln(&b, rigged(w, v, false), rigged(w, v, true))
	}
	for names := range far {
		b.WriteString(images(w.After([3]int{names, names, names}, [3][]int{{names}, {7}, {1 << 20}})))
	}
	return b.String()
}

// counted lets a world count the calls of a volume that are made from now on; made tells how many were: changing ones, reading ones.
func counted(w *world.World, v int) {
	w.Rig(v, far-1, 1, 0, false)
	w.Rig(v, far-1, 1, 0, true)
}

func made(w *world.World, v int) [2]int {
	return [2]int{far - 1 - strings.Index(rigged(w, v, false), "x"), far - 1 - strings.Index(rigged(w, v, true), "x")}
}

// plain: a stage by P16.1 to P16.3's words.
type plain struct {
	w          *world.World
	from, to   int
	src, place string
	paths      []string // of the things that aren't done
	values     []api.Value
	begun      bool   // the next thing's first step is done
	number     int    // that Stat told
	read       []byte // all that was read of it
	over       bool
}

func newPlain(w *world.World, from, to int, src, place string, t *tree.Tree) *plain {
	m := &plain{w: w, from: from, to: to, src: src, place: place}
	for q, v := range t.All() {
		m.paths, m.values = append(m.paths, q), append(m.values, v)
	}
	return m
}

func (m *plain) next() (string, bool) {
	if m.over || len(m.paths) == 0 {
		return "", false
	}
	return joined(m.src, m.paths[0]), true
}

func (m *plain) left() int {
	n := 0
	for i, v := range m.values {
		pieces := 1
		if v.Kind == api.File && v.Size > 0 {
			pieces = v.Size / 512
			if v.Size%512 > 0 {
				pieces++
			}
		}
		if i == 0 && m.begun {
			pieces -= len(m.read) / 512
		}
		n += pieces
	}
	if m.over {
		return 0
	}
	return n
}

func (m *plain) overtaken() (int, api.Errno) {
	m.over = true
	return api.DidOvertaken, 160
}

func (m *plain) failed(e api.Errno) (int, api.Errno) {
	m.over = true
	return api.DidFailed, e
}

func (m *plain) done() (int, api.Errno) {
	m.paths, m.values = m.paths[1:], m.values[1:]
	m.begun, m.number, m.read = false, 0, nil
	return api.DidStage, api.OK
}

// source: what an error of the source makes of a step.
func (m *plain) source(e api.Errno) (int, api.Errno) {
	if e == 93 || e == 94 || e == 96 || e == 221 {
		return m.overtaken()
	}
	return m.failed(e)
}

func (m *plain) step() (int, api.Errno) {
	if _, ok := m.next(); !ok {
		return api.DidNothing, api.OK
	}
	source, target, v := joined(m.src, m.paths[0]), joined(m.place, m.paths[0]), m.values[0]
	switch v.Kind {
	case api.Dir:
		if e := m.w.Mkdir(m.to, target); e != api.OK {
			return m.failed(e)
		}
		if e := m.w.Chmod(m.to, target, v.Mode); e != api.OK {
			return m.failed(e)
		}
		return m.done()
	case api.Link:
		x, e := m.w.Target(m.from, source)
		if e != api.OK {
			return m.source(e)
		}
		if len(x) != v.Size || plainDigest(x) != v.Sum {
			return m.overtaken()
		}
		if e := m.w.Link(m.to, target, x); e != api.OK {
			return m.failed(e)
		}
		return m.done()
	}
	return m.fileStep(source, target, v)
}

func (m *plain) fileStep(source, target string, v api.Value) (int, api.Errno) {
	if !m.begun {
		x, e := m.w.Stat(m.from, source)
		if e != api.OK {
			return m.source(e)
		}
		if x.Kind != api.File {
			return m.overtaken()
		}
		if e := m.w.Create(m.to, target); e != api.OK {
			return m.failed(e)
		}
		m.begun, m.number = true, x.Number
	}
	if v.Size > 0 {
		n := 512
		if rest := v.Size - len(m.read); rest < n {
			n = rest
		}
		b, e := m.w.Read(m.from, source, m.number, len(m.read), n)
		if e != api.OK {
			return m.source(e)
		}
		if len(b) != n {
			return m.overtaken()
		}
		if e := m.w.Append(m.to, target, b); e != api.OK {
			return m.failed(e)
		}
		m.read = append(m.read, b...)
	}
	if len(m.read) < v.Size {
		return api.DidStage, api.OK
	}
	if plainDigest(string(m.read)) != v.Sum {
		return m.overtaken()
	}
	if e := m.w.Sync(m.to, target); e != api.OK {
		return m.failed(e)
	}
	if e := m.w.Chmod(m.to, target, v.Mode); e != api.OK {
		return m.failed(e)
	}
	return m.done()
}

// pair: two worlds alike, with stages over the one and plain ones over the other.
type pair struct {
	w, plain *world.World
	stages   []*Stage
	models   []*plain
}

func paired(w *world.World) *pair { return &pair{w: w, plain: w.Copy()} }

func (p *pair) begin(from, to int, src, place string, x *tree.Tree) {
	p.stages = append(p.stages, New(p.w, from, to, src, place, x))
	p.models = append(p.models, newPlain(p.plain, from, to, src, place, x))
}

// step lets one of the stages do a step in both worlds, looks that both tell the same, Next and Left too, and tells what it did.
func (p *pair) step(t testing.TB, what string, i int) (int, api.Errno) {
	t.Helper()
	p.tells(t, what+": ahead of it", i)
	did, e := p.stages[i].Step()
	wantedDid, wantedE := p.models[i].step()
	wantText(t, what, fmt.Sprint(did, int(e)), fmt.Sprint(wantedDid, int(wantedE)))
	p.tells(t, what+": behind it", i)
	return did, e
}

// tells looks at Next and Left, twice.
func (p *pair) tells(t testing.TB, what string, i int) {
	t.Helper()
	wanted, more := p.models[i].next()
	for range 2 {
		q, ok := p.stages[i].Next()
		wantText(t, what+": Next and Left", fmt.Sprintf("%q %v %d", q, ok, p.stages[i].Left()), fmt.Sprintf("%q %v %d", wanted, more, p.models[i].left()))
	}
}

// near looks, less dearly, that the worlds hold the same.
func (p *pair) near(t testing.TB, what string) {
	t.Helper()
	wantText(t, what, images(p.w), images(p.plain))
}

// alike looks that the worlds are the same in all that can be told of them.
func (p *pair) alike(t testing.TB, what string) {
	t.Helper()
	wantText(t, what, told(p.w), told(p.plain))
}

// each does something to both worlds.
func (p *pair) each(do func(w *world.World)) {
	do(p.w)
	do(p.plain)
}

// toEnd does steps up to the one that does nothing, and tells the last that did something.
func (p *pair) toEnd(t testing.TB, what string) (int, api.Errno) {
	t.Helper()
	last, err := api.DidNothing, api.OK
	for i := 0; ; i++ {
		did, e := p.step(t, fmt.Sprintf("%s: step %d", what, i), 0)
		p.near(t, fmt.Sprintf("%s: behind step %d", what, i))
		if did == api.DidNothing {
			p.alike(t, what+": at the end")
			return last, err
		}
		last, err = did, e
	}
}

// run does steps of one stage till one does no stage step: how many went well, and what the other one told.
func run(s *Stage) (steps, did int, e api.Errno) {
	for {
		if did, e = s.Step(); did != api.DidStage {
			return steps, did, e
		}
		steps++
	}
}

// isOver looks that nothing comes any more: no step, no call.
func isOver(t testing.TB, what string, s *Stage, w *world.World) {
	t.Helper()
	before := told(w)
	for range 3 {
		did, e := s.Step()
		want(t, what+": did", did, api.DidNothing)
		want(t, what+": error", e, api.OK)
		p, ok := s.Next()
		want(t, what+": Next", p, "")
		want(t, what+": there is one", ok, false)
		want(t, what+": Left", s.Left(), 0)
	}
	wantText(t, what+": the world", told(w), before)
}
