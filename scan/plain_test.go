package scan

import (
	"crypto/sha256"
	"fmt"
	"slices"
	"strings"
	"testing"

	"twine/api"
	"twine/rules"
	"twine/tree"
	"twine/world"
)

// This file: volumes to scan, all that can be told of a scan and of a world, and a scan that is written down plainly: flat lists, no workers.

func want[T comparable](t *testing.T, what string, got, wanted T) {
	t.Helper()
	if got != wanted {
		t.Errorf("%s: got %v, want %v", what, got, wanted)
	}
}

func wantText(t *testing.T, what, got, wanted string) {
	t.Helper()
	if got != wanted {
		t.Fatalf("%s: got\n%s\nwant\n%s", what, got, wanted)
	}
}

func wantOK(t *testing.T, what string, e api.Errno) {
	t.Helper()
	if e != api.OK {
		t.Fatalf("%s: %d", what, e)
	}
}

// text: so many bytes, no two pieces of which are alike.
func text(size int) string {
	b := make([]byte, size)
	for i := range b {
		b[i] = byte(i*7 + i/512*31 + i/256)
	}
	return string(b)
}

func dirAt(p string, mode, number, stamp int) api.Thing {
	return api.Thing{Path: p, Kind: api.Dir, Mode: mode, Number: number, Stamp: stamp}
}

func fileAt(p string, mode int, data string, number, stamp int) api.Thing {
	return api.Thing{Path: p, Kind: api.File, Mode: mode, Data: []byte(data), Number: number, Stamp: stamp}
}

func linkAt(p, target string, number, stamp int) api.Thing {
	return api.Thing{Path: p, Kind: api.Link, Data: []byte(target), Number: number, Stamp: stamp}
}

// worldOf: a world whose volume v has these things.
func worldOf(t testing.TB, v, clock int, things ...api.Thing) *world.World {
	t.Helper()
	var all [3][]api.Thing
	all[v] = things
	w, e := world.New(api.Caps{}, clock, all)
	if e != api.OK {
		t.Fatalf("world.New: %d", e)
	}
	return w
}

func ruled(t testing.TB, text string) *rules.Rules {
	t.Helper()
	r, line, e := rules.Parse(text)
	if e != api.OK {
		t.Fatalf("rules.Parse of %q: %d, %d", text, line, e)
	}
	return r
}

func treeOf(t testing.TB, n api.Node) *tree.Tree {
	t.Helper()
	x, e := tree.Of(n)
	if e != api.OK {
		t.Fatalf("tree.Of: %d", e)
	}
	return x
}

func first(t testing.TB) *tree.Tree {
	return treeOf(t, api.Node{Value: api.Value{Kind: api.Dir, Mode: api.Unknown}})
}

// plainDigest: of bytes, by the library's sum.
func plainDigest(b []byte) [32]byte {
	var sums []byte
	for len(b) > 0 {
		n := min(len(b), 512)
		x := sha256.Sum256(b[:n])
		sums, b = append(sums, x[:]...), b[n:]
	}
	return sha256.Sum256(sums)
}

// valueOf: what a thing of a volume is worth.
func valueOf(x api.Thing) api.Value {
	switch x.Kind {
	case api.Dir:
		return api.Value{Kind: api.Dir, Mode: x.Mode}
	case api.Link:
		return api.Value{Kind: api.Link, Size: len(x.Data), Sum: plainDigest(x.Data)}
	}
	return api.Value{Kind: api.File, Mode: x.Mode, Size: len(x.Data), Sum: plainDigest(x.Data)}
}

// ahead tells whether a path stands ahead of another one: name by name.
func ahead(p, q string) bool {
	if p == "" || q == "" {
		return p == "" && q != ""
	}
	return slices.Compare(strings.Split(p, "/"), strings.Split(q, "/")) < 0
}

func compare(p, q string) int {
	switch {
	case p == q:
		return 0
	case ahead(p, q):
		return -1
	}
	return 1
}

// above tells all paths above one, and itself.
func above(p string) []string {
	l := []string{""}
	for i := range p {
		if p[i] == '/' {
			l = append(l, p[:i])
		}
	}
	if p != "" {
		l = append(l, p)
	}
	return l
}

func below(dir, name string) string {
	if dir == "" {
		return name
	}
	return dir + "/" + name
}

// found: what stands at a path of a volume, by its picture.
func found(w *world.World, v int, p string) (api.Thing, bool) {
	for _, x := range w.Image(v) {
		if x.Path == p {
			return x, true
		}
	}
	return api.Thing{}, false
}

// lineOf: a path's line of a tree.
func lineOf(p string, v api.Value, m [2]api.Mark) string {
	return fmt.Sprintf("%q %d.%d.%d %x %v\n", p, v.Kind, v.Mode, v.Size, v.Sum[:4], m)
}

// flat: a tree, a line a path, marks too.
func flat(x *tree.Tree) string {
	var s strings.Builder
	for p, v := range x.All() {
		sub, _ := x.Sub(p)
		s.WriteString(lineOf(p, v, sub.Marks()))
	}
	return s.String()
}

// values: a tree, a line a path, without marks.
func values(x *tree.Tree) string {
	var s strings.Builder
	for p, v := range x.All() {
		s.WriteString(lineOf(p, v, [2]api.Mark{}))
	}
	return s.String()
}

// tellScan: all that a scan tells, Thing of these paths.
func tellScan(s *Scan, paths []string) string {
	p, ok := s.Next()
	var out strings.Builder
	fmt.Fprintf(&out, "next %q %v\n%slost %q\nheld %q\nlisted %d\n", p, ok, flat(s.Tree()), fmt.Sprint(s.Lost()), s.Held(), s.Listed())
	for _, p := range paths {
		m, quick, ok := s.Thing(p)
		fmt.Fprintf(&out, "thing %q %v %v %v\n", p, m, quick, ok)
	}
	return out.String()
}

// tellWorld: all that can be told of a world, what is rigged too.
func tellWorld(w *world.World) string {
	var out strings.Builder
	fmt.Fprintln(&out, "clock", w.Clock())
	for v := range 3 {
		for _, x := range w.Image(v) {
			fmt.Fprintf(&out, "%d %q %d.%d %x %d %d %d\n", v, x.Path, x.Kind, x.Mode, sha256.Sum256(x.Data), x.Sure, x.Number, x.Stamp)
		}
		c := w.Copy()
		for range 12 {
			_, e := c.Stat(v, "")
			fmt.Fprint(&out, e, c.SyncVolume(v), " ")
		}
	}
	return out.String()
}

// plain: a scan that is written down plainly.
type plain struct {
	w      *world.World
	volume int
	r      *rules.Rules
	o      *tree.Tree
	open   []string // listed, not done
	file   *plainFile
	told   map[string]plainThing
	seen   []string // every path that was ever listed, or let be
	lost   []api.Lost
	held   map[string]bool
	listed int
}

// plainFile: a file that is being read.
type plainFile struct {
	stat  api.Stat
	clock int
	data  []byte
	steps int
}

type plainThing struct {
	value api.Value
	mark  api.Mark
	first api.Mark
	quick bool
}

func newPlain(w *world.World, volume int, r *rules.Rules, o *tree.Tree) *plain {
	return &plain{w: w, volume: volume, r: r, o: o, open: []string{""}, seen: []string{""}, told: map[string]plainThing{}, held: map[string]bool{}}
}

func (m *plain) next() (string, bool) {
	if len(m.open) == 0 {
		return "", false
	}
	return slices.MinFunc(m.open, compare), true
}

func (m *plain) done(p string) {
	m.file = nil
	m.open = slices.DeleteFunc(m.open, func(q string) bool { return p == q })
}

func (m *plain) lose(p string, e api.Errno) {
	m.lost = append(m.lost, api.Lost{Path: p, Err: e})
	m.done(p)
}

func (m *plain) step() bool {
	p, ok := m.next()
	if !ok {
		return false
	}
	if m.file != nil {
		m.piece(p)
		return true
	}
	s, e := m.w.Stat(m.volume, p)
	switch {
	case e == api.ErrWorldNone || e == api.ErrWorldWay:
		m.done(p)
	case e != api.OK:
		m.lose(p, e)
	case s.Kind == api.Dir:
		m.list(p, s)
	case s.Kind == api.Link:
		target, e := m.w.Target(m.volume, p)
		if e != api.OK {
			m.lose(p, e)
			break
		}
		m.told[p] = plainThing{value: api.Value{Kind: api.Link, Size: len(target), Sum: plainDigest([]byte(target))}}
		m.done(p)
	case m.isQuick(p, s):
		v, _ := m.o.At(p)
		k := api.Mark{Number: s.Number, Stamp: s.Stamp}
		m.told[p] = plainThing{value: api.Value{Kind: api.File, Mode: s.Mode, Size: s.Size, Sum: v.Sum}, mark: k, first: k, quick: true}
		m.done(p)
	default:
		m.file = &plainFile{stat: s, clock: m.w.Clock()}
		if s.Size == 0 {
			m.whole(p)
			break
		}
		m.piece(p)
	}
	return true
}

func (m *plain) list(p string, s api.Stat) {
	names, e := m.w.List(m.volume, p)
	if e != api.OK {
		m.lose(p, e)
		return
	}
	m.done(p)
	m.listed += len(names)
	m.told[p] = plainThing{value: api.Value{Kind: api.Dir, Mode: s.Mode}}
	for _, name := range names {
		q := below(p, name)
		m.seen = append(m.seen, q)
		if q == ".twine" {
			continue
		}
		if !m.r.Skip(q) {
			m.open = append(m.open, q)
			continue
		}
		for _, a := range above(p) {
			m.held[a] = true
		}
	}
}

func (m *plain) isQuick(p string, s api.Stat) bool {
	if m.volume != api.A && m.volume != api.B {
		return false
	}
	x, ok := m.o.Sub(p)
	if !ok || x.Value().Kind != api.File {
		return false
	}
	k := x.Marks()[m.volume]
	return k != (api.Mark{}) && k.Number == s.Number && k.Stamp == s.Stamp && x.Value().Size == s.Size && x.Value().Mode == s.Mode
}

func (m *plain) piece(p string) {
	f := m.file
	f.steps++
	n := min(512, f.stat.Size-len(f.data))
	b, e := m.w.Read(m.volume, p, f.stat.Number, len(f.data), n)
	switch {
	case e == api.ErrWorldOther, e == api.ErrWorldNone, e == api.ErrWorldWay, e == api.ErrWorldKind, e == api.OK && len(b) < n:
		m.lose(p, api.ErrScanMoved)
		return
	case e != api.OK:
		m.lose(p, e)
		return
	}
	m.listed++
	f.data = append(f.data, b...)
	if len(f.data) < f.stat.Size {
		return
	}
	if f.steps > 1 {
		s, e := m.w.Stat(m.volume, p)
		switch {
		case e == api.ErrWorldNone, e == api.ErrWorldWay, e == api.OK && (s.Number != f.stat.Number || s.Stamp != f.stat.Stamp || s.Size != f.stat.Size):
			m.lose(p, api.ErrScanMoved)
			return
		case e != api.OK:
			m.lose(p, e)
			return
		}
	}
	m.whole(p)
}

func (m *plain) whole(p string) {
	f := m.file
	x := plainThing{value: api.Value{Kind: api.File, Mode: f.stat.Mode, Size: f.stat.Size, Sum: plainDigest(f.data)}, first: api.Mark{Number: f.stat.Number, Stamp: f.stat.Stamp}}
	if f.stat.Stamp < f.clock && (m.volume == api.A || m.volume == api.B) {
		x.mark = x.first
	}
	m.told[p] = x
	m.done(p)
}

// fits tells whether a tree can have a path.
func fits(p string) bool { return strings.Count(p, "/") < 64 }

func (m *plain) tell(paths []string) string {
	p, ok := m.next()
	var out strings.Builder
	fmt.Fprintf(&out, "next %q %v\n", p, ok)
	var all []string
	for p := range m.told {
		if fits(p) {
			all = append(all, p)
		}
	}
	slices.SortFunc(all, compare)
	if len(all) == 0 {
		out.WriteString(lineOf("", api.Value{Kind: api.Dir, Mode: 8}, [2]api.Mark{}))
	}
	for _, p := range all {
		var marks [2]api.Mark
		if m.volume == 0 || m.volume == 1 {
			marks[m.volume] = m.told[p].mark
		}
		out.WriteString(lineOf(p, m.told[p].value, marks))
	}
	var held []string
	for p := range m.held {
		held = append(held, p)
	}
	slices.SortFunc(held, compare)
	fmt.Fprintf(&out, "lost %q\nheld %q\nlisted %d\n", fmt.Sprint(m.lost), held, m.listed)
	for _, p := range paths {
		x, ok := m.told[p]
		if ok = ok && fits(p) && x.value.Kind == api.File; !ok {
			x = plainThing{}
		}
		fmt.Fprintf(&out, "thing %q %v %v %v\n", p, x.first, x.quick, ok)
	}
	return out.String()
}

// asked: paths of which to ask Thing: all that were ever told of, and texts that are none.
func (m *plain) asked() []string {
	l := []string{"", "/", ".", "..", "nowhere", ".twine", "a\x00", strings.Repeat("d/", 64) + "d"}
	for _, p := range m.seen {
		l = append(l, p, "/"+p, p+"/", strings.Replace(p, "/", "//", 1)+"//")
	}
	return l
}

// held against the plain one: both tell the same, twice; their worlds too.
func held(t *testing.T, what string, s *Scan, w *world.World, m *plain) {
	t.Helper()
	paths := m.asked()
	wanted := m.tell(paths)
	wantText(t, what, tellScan(s, paths), wanted)
	wantText(t, what+", asked again", tellScan(s, paths), wanted)
	wantText(t, what+": the world", tellWorld(w), tellWorld(m.w))
}

// toEnd does steps up to the end, and tells their paths.
func toEnd(t *testing.T, s *Scan) string {
	t.Helper()
	var l []string
	for {
		p, ok := s.Next()
		if done := s.Step(); done != ok {
			t.Fatalf("Next: %q, %v; Step: %v", p, ok, done)
		}
		if !ok {
			return strings.Join(l, " ")
		}
		l = append(l, "/"+p)
	}
}

// lostText: what a scan lost, in one line.
func lostText(s *Scan) string {
	var l []string
	for _, x := range s.Lost() {
		l = append(l, fmt.Sprintf("/%s %d", x.Path, int(x.Err)))
	}
	return strings.Join(l, ", ")
}

// brief: a tree, in one line.
func brief(x *tree.Tree) string {
	var l []string
	for p, v := range x.All() {
		l = append(l, fmt.Sprintf("/%s %d.%d.%d", p, v.Kind, v.Mode, v.Size))
	}
	return strings.Join(l, ", ")
}

// markOf: the marks of a scan's file.
func marksOf(t *testing.T, s *Scan, p string) [2]api.Mark {
	t.Helper()
	x, ok := s.Tree().Sub(p)
	if !ok {
		t.Fatalf("nothing is told of %q", p)
	}
	return x.Marks()
}
