package apply

import (
	"crypto/sha256"
	"fmt"
	"strings"
	"testing"

	"twine/api"
	"twine/stage"
	"twine/tree"
	"twine/world"
)

// This file: trees and worlds to try, all that can be told of a world, and an item that is written down plainly: raw trees, flat lists of paths, all bytes kept.

func want[T comparable](t testing.TB, what string, got, wanted T) {
	t.Helper()
	if got != wanted {
		t.Errorf("%s: got %v, want %v", what, got, wanted)
	}
}

func wantText(t testing.TB, what, got, wanted string) {
	t.Helper()
	if got != wanted {
		t.Fatalf("%s: got\n%s\nwant\n%s", what, got, wanted)
	}
}

func wantOK(t testing.TB, what string, l ...api.Errno) {
	t.Helper()
	for i, e := range l {
		if e != api.OK {
			t.Fatalf("%s: call %d: %d", what, i, e)
		}
	}
}

// text: so many bytes, no two pieces of which are alike.
func text(size int) string {
	b := make([]byte, size)
	for i := range b {
		b[i] = byte(i*7 + i/512*31 + i/256)
	}
	return string(b)
}

// plainDigest: of bytes, by the library's sum.
func plainDigest(b string) [32]byte {
	var sums []byte
	for len(b) > 0 {
		n := min(len(b), 512)
		x := sha256.Sum256([]byte(b[:n]))
		sums, b = append(sums, x[:]...), b[n:]
	}
	return sha256.Sum256(sums)
}

func dirAt(p string, mode, number int) api.Thing {
	return api.Thing{Path: p, Kind: api.Dir, Mode: mode, Number: number, Stamp: 1}
}

func fileAt(p string, mode int, data string, number int) api.Thing {
	return api.Thing{Path: p, Kind: api.File, Mode: mode, Data: []byte(data), Number: number, Stamp: 1}
}

func linkAt(p, target string, number int) api.Thing {
	return api.Thing{Path: p, Kind: api.Link, Data: []byte(target), Number: number, Stamp: 1}
}

// Things without a number, at a path below a place.
func dirOf(q string, mode int) api.Thing         { return dirAt(q, mode, 0) }
func fileOf(q string, m int, d string) api.Thing { return fileAt(q, m, d, 0) }
func linkOf(q, target string) api.Thing          { return linkAt(q, target, 0) }

// sort: what may stand at a place: its things, the place's own first.
type sort struct {
	what   string
	things []api.Thing
}

// sorts: nothing, and each kind of thing.
func sorts() []sort {
	return []sort{
		{"nothing", nil},
		{"a file", []api.Thing{fileOf("", 6, text(600))}},
		{"an empty file", []api.Thing{fileOf("", 4, "")}},
		{"a link", []api.Thing{linkOf("", "../to")}},
		{"an empty directory", []api.Thing{dirOf("", 5)}},
		{"a directory of one file", []api.Thing{dirOf("", 5), fileOf("x", 3, "abc")}},
		{"directories within directories", []api.Thing{
			dirOf("", 6), dirOf("a", 5), fileOf("a/b", 4, text(513)), dirOf("a/c", 7), linkOf("a/c/l", "to"), fileOf("a.b", 2, ""),
			dirOf("d", 0), fileOf("e", 7, text(1024)), linkOf("z", strings.Repeat("t", 600)),
		}},
	}
}

// laid: things as they stand at a place, numbered from a first number on; the way to it is made of directories.
func laid(place string, things []api.Thing, number int) []api.Thing {
	var l []api.Thing
	for i := range place {
		if place[i] == '/' {
			l = append(l, dirAt(place[:i], 7, number+len(l)))
		}
	}
	for _, x := range things {
		x.Path = joined(place, x.Path)
		x.Number = number + len(l)
		l = append(l, x)
	}
	return l
}

// worldOf: a world whose A and B have these things, with `.twine` in both. Its clock is 3.
func worldOf(t testing.TB, caps api.Caps, a, b []api.Thing) *world.World {
	t.Helper()
	a = append([]api.Thing{dirAt(".twine", 7, 1<<20)}, a...)
	b = append([]api.Thing{dirAt(".twine", 7, 1<<20+1)}, b...)
	w, e := world.New(caps, 3, [3][]api.Thing{a, b})
	wantOK(t, "world.New", e)
	return w
}

// between: a world in which one sort of things stands at a path of A, another one at that of B.
func between(t testing.TB, p string, a, b []api.Thing) *world.World {
	t.Helper()
	return worldOf(t, api.Caps{}, laid(p, a, 1), laid(p, b, 1000))
}

// joined: the path of q below p, either of which may be the root's.
func joined(p, q string) string {
	if p == "" || q == "" {
		return p + q
	}
	return p + "/" + q
}

// lies tells whether p is root, or below it.
func lies(p, root string) bool {
	return root == "" || p == root || strings.HasPrefix(p, root+"/")
}

// valueOf: what a thing of a volume is worth.
func valueOf(x api.Thing) api.Value {
	switch x.Kind {
	case api.Dir:
		return api.Value{Kind: api.Dir, Mode: x.Mode}
	case api.Link:
		return api.Value{Kind: api.Link, Size: len(x.Data), Sum: plainDigest(string(x.Data))}
	}
	return api.Value{Kind: api.File, Mode: x.Mode, Size: len(x.Data), Sum: plainDigest(string(x.Data))}
}

// treeOf: the tree of things, the root's first; none: nil.
func treeOf(t testing.TB, things ...api.Thing) *tree.Tree {
	t.Helper()
	var x *tree.Tree
	for _, y := range things {
		one, e := tree.Of(api.Node{Value: valueOf(y)})
		wantOK(t, "tree.Of", e)
		if y.Path == "" {
			x = one
			continue
		}
		x, e = x.Put(y.Path, one)
		wantOK(t, "Put", e)
	}
	return x
}

// scanned: the tree of what a volume has at a path, nil, if nothing stands there. The staging place is no part of it.
func scanned(t testing.TB, w *world.World, v int, p string) *tree.Tree {
	t.Helper()
	var l []api.Thing
	for _, x := range w.Image(v) {
		if lies(x.Path, p) && (!lies(x.Path, ".twine") || lies(p, ".twine")) {
			x.Path = strings.TrimPrefix(strings.TrimPrefix(x.Path, p), "/")
			l = append(l, x)
		}
	}
	return treeOf(t, l...)
}

// values: a tree, a line a path, without marks; nil: the empty text.
func values(x *tree.Tree) string {
	var s strings.Builder
	if x == nil {
		return ""
	}
	for q, v := range x.All() {
		fmt.Fprintf(&s, "%q %d.%d.%d %x\n", q, v.Kind, v.Mode, v.Size, v.Sum)
	}
	return s.String()
}

// far is more than the calls that a test makes of a volume between two looks, or the changes of names that aren't sure then.
const far = 48

// imageOf: a volume, what is told of all things that a test takes.
func imageOf(w *world.World, v int, takes func(p string) bool) string {
	var b strings.Builder
	for _, x := range w.Image(v) {
		if takes(x.Path) {
			fmt.Fprintf(&b, "%d %q %d.%d %d %x %d #%d @%d\n", v, x.Path, x.Kind, x.Mode, len(x.Data), sha256.Sum256(x.Data), x.Sure, x.Number, x.Stamp)
		}
	}
	return b.String()
}

func image(w *world.World, v int) string {
	return imageOf(w, v, func(string) bool { return true })
}

func images(w *world.World) string { return image(w, 0) + image(w, 1) + image(w, 2) }

// outside: a volume without what is in the staging place.
func outside(w *world.World, v int) string {
	return imageOf(w, v, func(p string) bool { return !strings.HasPrefix(p, ".twine/") })
}

// staging: what a volume's staging place has, in one line: path, kind, mode, bytes.
func staging(w *world.World, v int) string {
	var l []string
	for _, x := range w.Image(v) {
		if strings.HasPrefix(x.Path, ".twine/") {
			l = append(l, fmt.Sprintf("%s %d.%d.%d", x.Path[len(".twine/"):], x.Kind, x.Mode, len(x.Data)))
		}
	}
	return strings.Join(l, ", ")
}

// rigged: which of the next calls of a volume would fail.
func rigged(w *world.World, v int, reading bool) string {
	c := w.Copy()
	var b strings.Builder
	for range far {
		e := c.Sync(v, "no")
		if reading {
			_, e = c.Stat(v, "no")
		}
		if e == api.ErrWorldFault {
			b.WriteByte('x')
		} else {
			b.WriteByte('.')
		}
	}
	return b.String()
}

// told: all that can be told of a world: the clock, what stands there, how its calls are rigged, and what some falls leave of it, by which the order of its changes of names shows.
func told(w *world.World) string {
	var b strings.Builder
	fmt.Fprintln(&b, "clock", w.Clock())
	b.WriteString(images(w))
	for v := range 3 {
		fmt.Fprintln(&b, rigged(w, v, false), rigged(w, v, true))
	}
	for _, names := range []int{0, 1, 2, 3, 5, 8, 13, 21, 34, far} {
		b.WriteString(images(w.After([3]int{names, names, names}, [3][]int{{names}, {7}, {1 << 20}})))
	}
	return b.String()
}

// counted lets a world count the calls of a volume that are made from now on; made tells how many were: changing ones, reading ones.
func counted(w *world.World, v int) {
	w.Rig(v, far-1, 1, 0, false)
	w.Rig(v, far-1, 1, 0, true)
}

func made(w *world.World, v int) [2]int {
	return [2]int{far - 1 - strings.Index(rigged(w, v, false), "x"), far - 1 - strings.Index(rigged(w, v, true), "x")}
}

// plain: an item by P17.1 to P17.6's words.
type plain struct {
	w        *world.World
	it       api.Item
	src, dst *tree.Tree
	stage    *stage.Stage
	phase    int
	how      int
	put      []api.Placed
	away     []string // the staging path and what is below it, rising
}

func newPlain(w *world.World, it api.Item, src, dst *tree.Tree) *plain {
	m := &plain{w: w, it: it, src: src, dst: dst, phase: api.DidLook}
	if it.What == api.Both {
		m.phase = api.DidPut
	}
	return m
}

func (m *plain) staged(q string) string {
	return joined(".twine/"+fmt.Sprint(m.it.Number), q)
}

// raw: a tree as raw data; nil: nil.
func raw(x *tree.Tree) *api.Node {
	if x == nil {
		return nil
	}
	n := x.Node()
	return &n
}

const (
	asWanted = iota
	isOther
	hasFailed
)

// looked: a look at a path, by P17.1's words.
func looked(w *world.World, v int, p string, n *api.Node) (int, api.Errno) {
	s, e := w.Stat(v, p)
	switch {
	case e == 94 && n == nil:
		return asWanted, 0
	case e == 94 || e == 93:
		return isOther, 0
	case e != 0:
		return hasFailed, e
	case n == nil || s.Kind != n.Value.Kind:
		return isOther, 0
	case s.Kind != api.Link && s.Mode != n.Value.Mode, s.Kind != api.Dir && s.Size != n.Value.Size:
		return isOther, 0
	}
	var all []byte
	switch s.Kind {
	case api.File:
		for off := 0; off < s.Size; off += 512 {
			b, e := w.Read(v, p, s.Number, off, 512)
			if e != 0 {
				return hasFailed, e
			}
			all = append(all, b...)
		}
	case api.Link:
		x, e := w.Target(v, p)
		if e != 0 {
			return hasFailed, e
		}
		all = []byte(x)
	default:
		return lookedInto(w, v, p, n.Kids)
	}
	if plainDigest(string(all)) != n.Value.Sum {
		return isOther, 0
	}
	return asWanted, 0
}

func lookedInto(w *world.World, v int, p string, kids []api.Node) (int, api.Errno) {
	names, e := w.List(v, p)
	if e != 0 {
		return hasFailed, e
	}
	wanted := []string{}
	for _, k := range kids {
		wanted = append(wanted, k.Name)
	}
	if fmt.Sprintf("%q", names) != fmt.Sprintf("%q", wanted) {
		return isOther, 0
	}
	for _, k := range kids {
		if is, e := looked(w, v, joined(p, k.Name), &k); is != asWanted {
			return is, e
		}
	}
	return asWanted, 0
}

func (m *plain) ended(how, did int, e api.Errno) (int, api.Errno) {
	m.how, m.phase = how, api.DidNothing
	return did, e
}

func (m *plain) overtaken() (int, api.Errno) {
	return m.ended(api.HowOvertaken, api.DidOvertaken, api.OK)
}

func (m *plain) failed(e api.Errno) (int, api.Errno) {
	return m.ended(api.HowFailed, api.DidFailed, e)
}

func (m *plain) step() (int, api.Errno) {
	switch {
	case m.phase == api.DidNothing:
		return api.DidNothing, api.OK
	case m.it.What == api.Both:
		return m.mode()
	case m.phase == api.DidStage:
		return m.bring()
	case m.phase == api.DidAway:
		return m.clear()
	}
	is, e := looked(m.w, m.it.To, m.it.Path, raw(m.dst))
	switch {
	case is == isOther:
		return m.overtaken()
	case is == hasFailed:
		return m.failed(e)
	case m.phase == api.DidPut:
		return m.replace()
	}
	m.phase = api.DidPut
	if m.src != nil {
		m.phase = api.DidStage
		m.stage = stage.New(m.w, m.it.From, m.it.To, m.it.Path, m.staged(""), m.src)
	}
	return api.DidLook, api.OK
}

func (m *plain) bring() (int, api.Errno) {
	did, e := m.stage.Step()
	switch did {
	case api.DidOvertaken:
		return m.overtaken()
	case api.DidFailed:
		return m.failed(e)
	}
	if m.stage.Left() == 0 {
		m.phase = api.DidPut
	}
	return api.DidStage, api.OK
}

// children: how many the root of a tree has.
func children(x *tree.Tree) int {
	if x == nil {
		return 0
	}
	return len(x.Node().Kids)
}

func (m *plain) replace() (int, api.Errno) {
	var put []api.Placed
	if m.src != nil {
		for q, v := range m.src.All() {
			if v.Kind == api.File {
				s, e := m.w.Stat(m.it.To, m.staged(q))
				if e != 0 {
					return m.failed(e)
				}
				put = append(put, api.Placed{Path: joined(m.it.Path, q), Number: s.Number, Stamp: s.Stamp})
			}
		}
	}
	var e api.Errno
	away := m.dst != nil
	switch {
	case m.src != nil && m.dst == nil:
		e = m.w.Rename(m.it.To, m.staged(""), m.it.Path)
	case m.src != nil:
		e = m.w.Exchange(m.it.To, m.staged(""), m.it.Path)
	case children(m.dst) > 0:
		e = m.w.Rename(m.it.To, m.it.Path, m.staged(""))
	default:
		away = false
		e = m.w.Remove(m.it.To, m.it.Path)
	}
	if e != 0 {
		return m.failed(e)
	}
	m.put, m.how, m.phase = put, api.HowPut, api.DidNothing
	if away {
		m.phase = api.DidAway
		for q := range m.dst.All() {
			m.away = append(m.away, m.staged(q))
		}
	}
	return api.DidPut, api.OK
}

func (m *plain) clear() (int, api.Errno) {
	last := len(m.away) - 1
	e := m.w.Remove(m.it.To, m.away[last])
	m.away = m.away[:last]
	if e != 0 || last == 0 {
		m.phase = api.DidNothing
	}
	return api.DidAway, e
}

func (m *plain) mode() (int, api.Errno) {
	s, e := m.w.Stat(m.it.To, m.it.Path)
	switch {
	case e == 93 || e == 94:
		return m.overtaken()
	case e != 0:
		return m.failed(e)
	case s.Kind != api.Dir || s.Mode != m.dst.Value().Mode:
		return m.overtaken()
	}
	if e := m.w.Chmod(m.it.To, m.it.Path, m.it.Mode); e != 0 {
		return m.failed(e)
	}
	return m.ended(api.HowPut, api.DidPut, api.OK)
}

func (m *plain) leave() {
	if m.how == api.HowNone {
		m.ended(api.HowLeft, 0, 0)
	}
}

func (m *plain) done() api.Done { return api.Done{Item: m.it.Number, How: m.how, Put: m.put} }

// tellsOf: what is told of an item: its phase and what is done.
func tellsOf(phase int, d api.Done) string {
	s := fmt.Sprintf("phase %d item %d how %d", phase, d.Item, d.How)
	for _, x := range d.Put {
		s += fmt.Sprintf(" %q #%d @%d", x.Path, x.Number, x.Stamp)
	}
	return s
}

// carry: an item that carries a path from one volume to the other.
func carry(number int, p string, from int) api.Item {
	return api.Item{Number: number, Cell: 3, Path: p, What: api.Carry, From: from, To: 1 - from}
}

// both: an item of a mode.
func both(number int, p string, from, mode int) api.Item {
	return api.Item{Number: number, Cell: 3, Path: p, What: api.Both, From: from, To: 1 - from, Mode: mode}
}

// pair: two worlds alike, with items over the one and plain ones over the other.
type pair struct {
	w, plain *world.World
	items    []*Apply
	models   []*plain
}

func paired(w *world.World) *pair { return &pair{w: w, plain: w.Copy()} }

// begun: a pair with one item, whose trees are what the world has.
func begun(t testing.TB, w *world.World, it api.Item) *pair {
	t.Helper()
	p := paired(w)
	p.begin(it, scanned(t, w, it.From, it.Path), scanned(t, w, it.To, it.Path))
	return p
}

func (p *pair) begin(it api.Item, src, dst *tree.Tree) {
	p.items = append(p.items, New(p.w, it, src, dst))
	p.models = append(p.models, newPlain(p.plain, it, src, dst))
}

// step lets one of the items do a step in both worlds, looks that both tell the same, Phase and Done too, and tells what it did.
func (p *pair) step(t testing.TB, what string, i int) (int, api.Errno) {
	t.Helper()
	p.tells(t, what+": ahead of it", i)
	did, e := p.items[i].Step()
	wantedDid, wantedE := p.models[i].step()
	wantText(t, what, fmt.Sprint(did, int(e)), fmt.Sprint(wantedDid, int(wantedE)))
	p.tells(t, what+": behind it", i)
	return did, e
}

func (p *pair) leave(i int) {
	p.items[i].Leave()
	p.models[i].leave()
}

// tells looks at Phase and Done, twice.
func (p *pair) tells(t testing.TB, what string, i int) {
	t.Helper()
	wanted := tellsOf(p.models[i].phase, p.models[i].done())
	for range 2 {
		wantText(t, what+": Phase and Done", tellsOf(p.items[i].Phase(), p.items[i].Done()), wanted)
	}
}

// near looks, less dearly, that the worlds hold the same.
func (p *pair) near(t testing.TB, what string) {
	t.Helper()
	wantText(t, what, images(p.w), images(p.plain))
}

// alike looks that the worlds are the same in all that can be told of them.
func (p *pair) alike(t testing.TB, what string) {
	t.Helper()
	wantText(t, what, told(p.w), told(p.plain))
}

// each does something to both worlds.
func (p *pair) each(do func(w *world.World)) {
	do(p.w)
	do(p.plain)
}

// steps does so many steps, each of which must go well.
func (p *pair) steps(t testing.TB, what string, n int) {
	t.Helper()
	for i := range n {
		phase := p.items[0].Phase()
		did, e := p.step(t, fmt.Sprintf("%s: step %d", what, i), 0)
		if did != phase || e != api.OK {
			t.Fatalf("%s: step %d: got %d, %d, want %d", what, i, did, e, phase)
		}
	}
}

// toEnd does steps up to the one that does nothing, and tells what they did, and the last error.
func (p *pair) toEnd(t testing.TB, what string) (string, api.Errno) {
	t.Helper()
	var dids []string
	var last api.Errno
	for i := 0; ; i++ {
		did, e := p.step(t, fmt.Sprintf("%s: step %d", what, i), 0)
		p.near(t, fmt.Sprintf("%s: behind step %d", what, i))
		if did == api.DidNothing {
			p.alike(t, what+": at the end")
			hasEnded(t, what, p.items[0], p.w)
			return strings.Join(dids, " "), last
		}
		dids, last = append(dids, didName(did)), e
	}
}

// didName: what a step did, as a word.
func didName(did int) string {
	switch did {
	case api.DidNothing:
		return "nothing"
	case api.DidLook:
		return "look"
	case api.DidStage:
		return "stage"
	case api.DidPut:
		return "put"
	case api.DidAway:
		return "away"
	case api.DidOvertaken:
		return "overtaken"
	case api.DidFailed:
		return "failed"
	}
	return fmt.Sprint("did ", did)
}

// times: a word so often, a blank behind each.
func times(word string, n int) string { return strings.Repeat(word+" ", n) }

// hasEnded looks that nothing comes any more: no step, no call, no other Done.
func hasEnded(t testing.TB, what string, a *Apply, w *world.World) {
	t.Helper()
	before, done := told(w), tellsOf(a.Phase(), a.Done())
	for range 2 {
		did, e := a.Step()
		want(t, what+": did", did, api.DidNothing)
		want(t, what+": error", e, api.OK)
		want(t, what+": Phase", a.Phase(), api.DidNothing)
		a.Leave()
		want(t, what+": Done", tellsOf(a.Phase(), a.Done()), done)
	}
	wantText(t, what+": the world", told(w), before)
}
