package run

import (
	"crypto/sha256"
	"errors"
	"fmt"
	"hash/crc32"
	"maps"
	"slices"
	"strconv"
	"strings"
	"testing"

	"twine/api"
	"twine/codec"
	"twine/rules"
	"twine/tree"
	"twine/world"
)

// This file: worlds to try, what they hold, and edits.

func want[T comparable](t testing.TB, what string, got, wanted T) {
	t.Helper()
	if got != wanted {
		t.Errorf("%s: got %v, want %v", what, got, wanted)
	}
}

func mustWant[T comparable](t testing.TB, what string, got, wanted T) {
	t.Helper()
	if got != wanted {
		t.Fatalf("%s: got %v, want %v", what, got, wanted)
	}
}

func parsed(t testing.TB, text string) *rules.Rules {
	t.Helper()
	r, line, e := rules.Parse(text)
	if e != api.OK {
		t.Fatalf("rules: line %d, %d", line, e)
	}
	return r
}

// text: so many bytes, no two pieces of which are alike.
func text(size int) string {
	b := make([]byte, size)
	for i := range b {
		b[i] = byte(i*7 + i/512*31 + i/256)
	}
	return string(b)
}

// digest: of bytes, by the library's sum.
func digest(b string) [32]byte {
	var sums []byte
	for len(b) > 0 {
		n := min(len(b), 512)
		x := sha256.Sum256([]byte(b[:n]))
		sums, b = append(sums, x[:]...), b[n:]
	}
	return sha256.Sum256(sums)
}

// things: of a volume, written with blanks between: `d@5` a directory of mode 5, `f:6=abc` a file, `f:6*600` one of so many bytes, `l>to` a link, `@5` the root. Files are sure; numbers rise from a first one on.
func things(number int, line string) []api.Thing {
	var l []api.Thing
	for i, word := range strings.Fields(line) {
		x := api.Thing{Number: number + i, Stamp: 1}
		at := strings.IndexAny(word, "@:>")
		x.Path = word[:at]
		rest := word[at+1:]
		switch word[at] {
		case '@':
			x.Kind, x.Mode = api.Dir, digit(rest)
		case '>':
			x.Kind, x.Data = api.Link, []byte(rest)
		default:
			x.Kind, x.Mode, x.Data = api.File, digit(rest), contents(rest[1:])
			x.Sure = len(x.Data)
		}
		l = append(l, x)
	}
	return l
}

func digit(s string) int { return int(s[0] - '0') }

func contents(s string) []byte {
	if s[0] == '=' {
		return []byte(s[1:])
	}
	n, _ := strconv.Atoi(s[1:])
	return []byte(text(n))
}

// worldOf: a world whose volumes have these things; the clock is 3.
func worldOf(t testing.TB, a, b, s string) *world.World {
	t.Helper()
	return cappedWorld(t, api.Caps{}, a, b, things(201, s))
}

func cappedWorld(t testing.TB, caps api.Caps, a, b string, s []api.Thing) *world.World {
	t.Helper()
	w, e := world.New(caps, 3, [3][]api.Thing{things(11, a), things(101, b), s})
	mustWant(t, "world.New", e, api.OK)
	return w
}

// archived: a world whose archive is that of a tree.
func archived(t testing.TB, a, b, o string) *world.World {
	t.Helper()
	return cappedWorld(t, api.Caps{}, a, b, archiveThing(encoded(t, treeOf(t, o), 3)))
}

func archiveThing(b []byte) []api.Thing {
	return []api.Thing{{Path: "archive", Kind: api.File, Mode: 7, Data: b, Sure: len(b), Number: 201, Stamp: 1}}
}

func encoded(t testing.TB, x *tree.Tree, version int) []byte {
	t.Helper()
	b, e := codec.Encode(x, version, api.MaxNodes)
	mustWant(t, "Encode", e, api.OK)
	return b
}

// treeOf: the tree of things, without marks; a root of mode 7, if none is written. A mode 8 is unknown.
func treeOf(t testing.TB, line string) *tree.Tree {
	t.Helper()
	return grown(t, things(1, line))
}

func grown(t testing.TB, l []api.Thing) *tree.Tree {
	t.Helper()
	x, e := tree.Of(api.Node{Value: api.Value{Kind: api.Dir, Mode: 7}})
	for _, y := range l {
		s, wrong := tree.Of(api.Node{Value: valueOf(y)})
		mustWant(t, "tree.Of", wrong, api.OK)
		if x, e = x.Put(y.Path, s); e != api.OK {
			t.Fatal("Put", y.Path, e)
		}
	}
	return x
}

// valueOf: a thing as a tree has it.
func valueOf(x api.Thing) api.Value {
	v := api.Value{Kind: x.Kind, Mode: x.Mode}
	if x.Kind != api.Dir {
		v.Size, v.Sum = len(x.Data), digest(string(x.Data))
	}
	return v
}

// spot: what stands at a path.
type spot struct {
	kind, mode int
	data       string
}

func (s spot) value() api.Value {
	return valueOf(api.Thing{Kind: s.kind, Mode: s.mode, Data: []byte(s.data)})
}

// picture: a volume as its paths.
type picture map[string]spot

func isStaging(p string) bool { return p == ".twine" || strings.HasPrefix(p, ".twine/") }

// pictured: all of a volume, or all but its staging place.
func pictured(w *world.World, v int, staging bool) picture {
	m := picture{}
	for _, x := range w.Image(v) {
		if staging || !isStaging(x.Path) {
			m[x.Path] = spot{x.Kind, x.Mode, string(x.Data)}
		}
	}
	return m
}

// values: a picture with digests, as a tree has it.
func (m picture) values() map[string]api.Value {
	l := make(map[string]api.Value, len(m))
	for p, s := range m {
		l[p] = s.value()
	}
	return l
}

func compare(a, b string) int {
	return slices.Compare(strings.Split(a, "/"), strings.Split(b, "/"))
}

// told: a picture in the writing of things; long contents by their length and a digest's first bytes.
func (m picture) told() string {
	var l []string
	for _, p := range slices.SortedFunc(maps.Keys(m), compare) {
		s := m[p]
		data := "=" + s.data
		if len(s.data) > 40 {
			data = fmt.Sprintf("*%d", len(s.data))
			if s.data != text(len(s.data)) {
				data += fmt.Sprintf("!%x", digest(s.data))[:7]
			}
		}
		switch s.kind {
		case api.Dir:
			l = append(l, fmt.Sprintf("%s@%d", p, s.mode))
		case api.Link:
			l = append(l, p+">"+s.data)
		default:
			l = append(l, fmt.Sprintf("%s:%d%s", p, s.mode, data))
		}
	}
	return strings.Join(l, " ")
}

// holds looks that a volume has just that, outside its staging place.
func holds(t testing.TB, w *world.World, v int, line string) {
	t.Helper()
	want(t, fmt.Sprint("volume ", v), pictured(w, v, false).told(), line)
}

// lies tells whether p is at, or below, root.
func lies(p, root string) bool { return root == "" || p == root || strings.HasPrefix(p, root+"/") }

// archiveOf: what the archive's file decodes to; nil, if there is none or it is refused.
func archiveOf(w *world.World) *tree.Tree {
	for _, x := range w.Image(api.S) {
		if x.Path == "archive" {
			t, _, _ := codec.Decode(x.Data, api.MaxNodes)
			return t
		}
	}
	return nil
}

// archiveTold: the archive's tree, a line: `d@5`, `f:6.3(1,2)` with its marks' numbers, `l>2`.
func archiveTold(w *world.World) string {
	t := archiveOf(w)
	if t == nil {
		return "none"
	}
	var l []string
	for p, v := range t.All() {
		sub, _ := t.Sub(p)
		m := sub.Marks()
		switch v.Kind {
		case api.Dir:
			l = append(l, fmt.Sprintf("%s@%d", p, v.Mode))
		case api.Link:
			l = append(l, fmt.Sprintf("%s>%d", p, v.Size))
		default:
			l = append(l, fmt.Sprintf("%s:%d.%d(%d,%d)", p, v.Mode, v.Size, m[0].Number, m[1].Number))
		}
	}
	return strings.Join(l, " ")
}

// Edits.
func newFile(p, data string) api.Edit {
	return api.Edit{Kind: api.EditFile, Path: p, Data: []byte(data), Mode: 6}
}
func newDir(p string) api.Edit      { return api.Edit{Kind: api.EditMkdir, Path: p, Mode: 5} }
func newLink(p, to string) api.Edit { return api.Edit{Kind: api.EditLink, Path: p, To: to} }
func write(p, data string) api.Edit {
	return api.Edit{Kind: api.EditWrite, Path: p, Data: []byte(data)}
}
func appendTo(p, data string) api.Edit {
	return api.Edit{Kind: api.EditAppend, Path: p, Data: []byte(data)}
}
func chmod(p string, mode int) api.Edit { return api.Edit{Kind: api.EditChmod, Path: p, Mode: mode} }
func rename(p, to string) api.Edit      { return api.Edit{Kind: api.EditRename, Path: p, To: to} }
func exchange(p, to string) api.Edit    { return api.Edit{Kind: api.EditExchange, Path: p, To: to} }
func remove(p string) api.Edit          { return api.Edit{Kind: api.EditRemove, Path: p} }
func settle() api.Edit                  { return api.Edit{Kind: api.EditSettle} }

func didName(did int) string {
	return []string{"nothing", "begin", "load", "clean", "scan", "plan", "look", "overtaken", "stage", "put", "away", "failed", "sure", "save", "end", "bad", "fault"}[did]
}

// toldReply: a reply in a word or two: what was done, the item's number, the path, the error.
func toldReply(r api.Reply) string {
	s := didName(r.Did)
	if r.Item != 0 {
		s += "#" + strconv.Itoa(r.Item)
	}
	if r.Path != "" {
		s += ":" + r.Path
	}
	if r.Err != api.OK {
		s += "!" + strconv.Itoa(int(r.Err))
	}
	return s
}

// toldEntries: of each entry its path, what it is, its side, how it ended.
func toldEntries(l []api.Entry) string {
	var out []string
	for _, x := range l {
		s := x.Path + " " + []string{"?", "agreed", "both", "carry", "conflict", "modes", "kept"}[x.What]
		if x.Side != 0 {
			s += " " + string("?ab"[x.Side])
		}
		if x.How != api.HowNone {
			s += " " + []string{"none", "put", "overtaken", "failed", "left", "weak"}[x.How]
		}
		out = append(out, s)
	}
	return strings.Join(out, ", ")
}

// toldReport: over, saved, the error, whether it forgot, and the entries.
func toldReport(r api.Report) string {
	s := []string{"not", "end", "bad", "fault", "cancel"}[r.Over] + " " + []string{"no", "perhaps", "yes"}[r.Saved]
	if r.Err != api.OK {
		s += " " + strconv.Itoa(int(r.Err))
	}
	if r.Forgot {
		s += " forgot"
	}
	if len(r.Entries) > 0 {
		s += ": " + toldEntries(r.Entries)
	}
	return s
}

// resummed: an archive's bytes with one byte turned, and a right sum.
func resummed(b []byte, i int) []byte {
	n := len(b) - 4
	if i < n {
		b[i] ^= 0x55
	}
	sum := crc32.ChecksumIEEE(b[:n])
	for k := range 4 {
		b[n+k] = byte(sum >> (8 * k))
	}
	return b
}

// decodeFault: why an archive's bytes are refused; the zero one, if they aren't.
func decodeFault(b []byte) api.Fault {
	_, _, err := codec.Decode(b, api.MaxNodes)
	var f *api.Fault
	if errors.As(err, &f) {
		return *f
	}
	return api.Fault{}
}

// world: with both staging places; without an archive, if the scene has no tree for it.
func (s scene) world(t testing.TB) *world.World {
	t.Helper()
	a, b := s.a+" .twine@7", s.b+" .twine@7"
	if s.o == "" {
		return worldOf(t, a, b, "")
	}
	return archived(t, a, b, s.o)
}
