package audit

import (
	"crypto/sha256"
	"fmt"
	"hash/crc32"
	"reflect"
	"slices"
	"strconv"
	"strings"
	"testing"

	"twine/api"
	"twine/codec"
	"twine/rules"
	"twine/tree"
)

// This file: volumes to look at, how they are written, and what is told of them.

func want[T comparable](t testing.TB, what string, got, wanted T) {
	t.Helper()
	if got != wanted {
		t.Errorf("%s: got %v, want %v", what, got, wanted)
	}
}

func mustWant[T comparable](t testing.TB, what string, got, wanted T) {
	t.Helper()
	if got != wanted {
		t.Fatalf("%s: got %v, want %v", what, got, wanted)
	}
}

func parsed(t testing.TB, text string) *rules.Rules {
	t.Helper()
	r, line, e := rules.Parse(text)
	if e != api.OK {
		t.Fatalf("rules: line %d, %d", line, e)
	}
	return r
}

// text: so many bytes, no two pieces of which are alike.
func text(size int) string {
	b := make([]byte, size)
	for i := range b {
		b[i] = byte(i*7 + i/512*31 + i/256)
	}
	return string(b)
}

// digest: of bytes, by the library's sum.
func digest(b []byte) [32]byte {
	var sums []byte
	for piece := range slices.Chunk(b, 512) {
		x := sha256.Sum256(piece)
		sums = append(sums, x[:]...)
	}
	return sha256.Sum256(sums)
}

// things: of a volume, written with blanks between: `d@5` a directory of mode 5, `f:6=abc` a file, `f:6*600` one of so many bytes, behind either `~2`: so many bytes are sure (else all), `l>to` a link, `@5` the root. Numbers rise from a first one on.
func things(number int, line string) []api.Thing {
	var l []api.Thing
	for i, word := range strings.Fields(line) {
		x := api.Thing{Number: number + i, Stamp: 1}
		at := strings.IndexAny(word, "@:>")
		x.Path = word[:at]
		rest := word[at+1:]
		switch word[at] {
		case '@':
			x.Kind, x.Mode = api.Dir, digit(rest)
		case '>':
			x.Kind, x.Data = api.Link, []byte(rest)
		default:
			data, sure, cut := strings.Cut(rest[1:], "~")
			x.Kind, x.Mode, x.Data = api.File, digit(rest), contents(data)
			x.Sure = len(x.Data)
			if cut {
				x.Sure, _ = strconv.Atoi(sure)
			}
		}
		l = append(l, x)
	}
	return l
}

func digit(s string) int { return int(s[0] - '0') }

func contents(s string) []byte {
	if s[0] == '=' {
		return []byte(s[1:])
	}
	n, _ := strconv.Atoi(s[1:])
	return []byte(text(n))
}

// volumes: A's, B's and S's things.
func volumes(a, b, s string) [3][]api.Thing {
	return [3][]api.Thing{things(101, a), things(201, b), things(301, s)}
}

// archived: A's and B's things, and on S the archive of a tree; “ of o: none.
func archived(t testing.TB, a, b, o string) [3][]api.Thing {
	t.Helper()
	l := volumes(a, b, "")
	if o != "" {
		l[api.S] = archiveThing(encoded(t, grown(t, o), 3))
	}
	return l
}

func archiveThing(b []byte) []api.Thing {
	return []api.Thing{{Path: "archive", Kind: api.File, Mode: 7, Data: b, Sure: len(b), Number: 301, Stamp: 1}}
}

func encoded(t testing.TB, x *tree.Tree, version int) []byte {
	t.Helper()
	b, e := codec.Encode(x, version, api.MaxNodes)
	mustWant(t, "Encode", e, api.OK)
	return b
}

// resummed: an archive's bytes with one byte turned, and a right sum.
func resummed(b []byte, i int) []byte {
	b = slices.Clone(b)
	n := len(b) - 4
	b[i] ^= 0x55
	sum := crc32.ChecksumIEEE(b[:n])
	for k := range 4 {
		b[n+k] = byte(sum >> (8 * k))
	}
	return b
}

// grown: the tree of things, without marks; a root of mode 7, if none is written. A mode 8 is unknown.
func grown(t testing.TB, line string) *tree.Tree {
	t.Helper()
	m := values{"": {Kind: api.Dir, Mode: 7}}
	for _, x := range things(1, line) {
		m[x.Path] = valued(x)
	}
	return m.tree(t)
}

// valued: a thing as a tree has it.
func valued(x api.Thing) api.Value {
	v := api.Value{Kind: x.Kind, Mode: x.Mode}
	if x.Kind != api.Dir {
		v.Size, v.Sum = len(x.Data), digest(x.Data)
	}
	return v
}

// toldValue: a value in a word: `@5`, `:6.3.1f2e3d`, `>2.1f2e3d`, `-` of nothing.
func toldValue(v api.Value) string {
	switch v.Kind {
	case api.Nothing:
		return "-"
	case api.Dir:
		return fmt.Sprintf("@%d", v.Mode)
	case api.Link:
		return fmt.Sprintf(">%d.%x", v.Size, v.Sum[:6])
	}
	return fmt.Sprintf(":%d.%d.%x", v.Mode, v.Size, v.Sum[:6])
}

// toldNode: a raw tree in a line, with the names and the marks that it has.
func toldNode(n api.Node) string { return toldBelow(n, "") }

func toldBelow(n api.Node, dir string) string {
	s := dir + n.Name + toldValue(n.Value)
	if n.Marks != [2]api.Mark{} {
		s += fmt.Sprint(n.Marks)
	}
	if n.Name != "" {
		dir += n.Name + "/"
	}
	for _, k := range n.Kids {
		s += " " + toldBelow(k, dir)
	}
	return s
}

// toldTree: a tree in a line; nil is nothing.
func toldTree(x *tree.Tree) string {
	if x == nil {
		return "nothing"
	}
	return toldNode(x.Node())
}

// toldFaults: `a d/f unlike, s archive 60`.
func toldFaults(l []api.Fault) string {
	var out []string
	for _, f := range l {
		word, ok := map[api.Errno]string{api.ErrAuditLeft: "left", api.ErrAuditUnsure: "unsure", api.ErrAuditUnlike: "unlike", api.ErrStoreKind: "kind"}[f.Err]
		if !ok {
			word = strconv.Itoa(int(f.Err))
		}
		out = append(out, fmt.Sprintf("%c %s %s", "abs"[f.At], f.Path, word))
	}
	return strings.Join(out, ", ")
}

// toldEntries: of each entry its path, what it is, its side, how it ended.
func toldEntries(l []api.Entry) string {
	var out []string
	for _, x := range l {
		s := x.Path + " " + []string{"?", "agreed", "both", "carry", "conflict", "modes", "kept"}[x.What]
		if x.Side != 0 {
			s += " " + string("?ab"[x.Side])
		}
		if x.How != api.HowNone {
			s += " " + []string{"none", "put", "overtaken", "failed", "left", "weak"}[x.How]
		}
		out = append(out, s)
	}
	return strings.Join(out, ", ")
}

// toldReport: over, saved, the error, whether it forgot, and the entries.
func toldReport(r api.Report) string {
	s := []string{"not", "end", "bad", "fault", "cancel"}[r.Over] + " " + []string{"no", "perhaps", "yes"}[r.Saved]
	if r.Err != api.OK {
		s += " " + strconv.Itoa(int(r.Err))
	}
	if r.Forgot {
		s += " forgot"
	}
	return s + ": " + toldEntries(r.Entries)
}

// toldOutlook: all of an outlook, a line each.
func toldOutlook(x api.Outlook) string {
	return "A " + toldNode(x.A) + "\nB " + toldNode(x.B) + "\nO " + toldNode(x.O) + "\n" + toldReport(x.Report)
}

// isZero: nothing at all.
func isZero(x api.Outlook) bool { return reflect.DeepEqual(x, api.Outlook{}) }
