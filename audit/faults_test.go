package audit

import (
	"fmt"
	"math"
	"slices"
	"strings"
	"testing"

	"twine/api"
	"twine/recon"
	"twine/rules"
	"twine/tree"
)

// This file: P21.3, what is wrong, and in which order it is told.

func TestP21_3ArchivePlaces(t *testing.T) {
	for _, c := range []struct{ what, s, faults string }{
		{"nothing", "", ""},
		{"others", "other:6=x d@7 d/archive:6=abc d/archive.new:6=abc .twine:6=x archives:6=x", ""},
		{"a directory", "archive@7", "s archive kind"},
		{"a directory with something in it", "archive@7 archive/archive.new:6=x archive/x@5", "s archive kind"},
		{"a link", "archive>archive.new", "s archive kind"},
		{"no bytes", "archive:7=", "s archive 60"},
		{"three bytes", "archive:7=abc", "s archive 60"},
		{"a new one: a file", "archive.new:6=half", "s archive.new left"},
		{"a new one: an empty file", "archive.new:6=", "s archive.new left"},
		{"a new one: a directory", "archive.new@7", "s archive.new left"},
		{"a new one: a directory with something in it", "archive.new@7 archive.new/x:6=1 archive.new/d@7", "s archive.new left"},
		{"a new one: a link", "archive.new>x", "s archive.new left"},
		{"both", "archive.new>x archive@7", "s archive kind, s archive.new left"},
	} {
		finds(t, c.what, volumes("", "", c.s), rules.None(), 100, c.faults)
	}
}

// forged: version-3 bytes of a tree, and what is made of them that is refused.
func forged(t testing.TB) map[string]struct {
	bytes []byte
	err   api.Errno
} {
	b := encoded(t, grown(t, "d@7 d/f:6=x g>to"), 3)
	cut := func(n int) []byte { return slices.Clone(b[:n]) }
	type row = struct {
		bytes []byte
		err   api.Errno
	}
	return map[string]row{
		"no bytes":                 {nil, api.ErrCodecMark},
		"three bytes of the mark":  {cut(3), api.ErrCodecMark},
		"another mark":             {resummed(b, 0), api.ErrCodecMark},
		"the mark alone":           {cut(4), api.ErrCodecVersion},
		"version 0x56":             {resummed(b, 4), api.ErrCodecVersion},
		"the head alone":           {cut(5), api.ErrCodecSum},
		"a byte less":              {cut(len(b) - 1), api.ErrCodecSum},
		"a byte more":              {append(cut(len(b)), 0), api.ErrCodecSum},
		"another sum":              {append(cut(len(b)-1), b[len(b)-1]^1), api.ErrCodecSum},
		"the number of nodes":      {resummed(b, 5), api.ErrCodecForm},
		"a root that is none":      {resummed(b, 6), api.ErrCodecForm},
		"a wrong hash of the root": {resummed(b, 9), api.ErrCodecHash},
	}
}

func TestP21_3DecodesFaults(t *testing.T) {
	for what, c := range forged(t) {
		vols := volumes("", "", "")
		vols[api.S] = archiveThing(c.bytes)
		finds(t, what, vols, rules.None(), 100, fmt.Sprint("s archive ", int(c.err)))
		// Where it stands in the bytes, or in the tree, isn't told.
		l, _ := Faults(vols, rules.None(), 100)
		want(t, what, l[0], api.Fault{At: api.S, Path: "archive", Err: c.err})
	}
}

func TestP21_3Versions(t *testing.T) {
	x := grown(t, "@5 d@7 d/f:6=x g>to")
	for version := 1; version <= 3; version++ {
		vols := volumes("@5 d@7 d/f:6=x g>to", "@4 d@7 d/f:5=x~0 g>to", "")
		vols[api.S] = archiveThing(encoded(t, x, version))
		wanted := "b  unlike, b d/f unlike"
		if version == 1 { // it knows no modes
			wanted = "b d/f unsure"
		}
		finds(t, fmt.Sprint("version ", version), vols, rules.None(), 100, wanted)
	}
	vols := volumes("@5 d@7 d/f:6=x g>to", "@5 d@7 d/f:6=x g>to", "")
	vols[api.S] = archiveThing(encoded(t, authorOf(1).marked(t, x), 3))
	finds(t, "with marks", vols, rules.None(), 100, "")
	vols[api.S][0].Sure = 0
	finds(t, "its own bytes needn't be sure", vols, rules.None(), 100, "")
}

// What `most` is counts as of layer 6, for the archive alone.
func TestP21_3Most(t *testing.T) {
	four := archived(t, "d@7 d/f:6=x g>to", "d@7 d/f:6=x g>to", "d@7 d/f:6=x g>to")
	one := archived(t, "a:6=x b:6=x", "a:6=x b:6=x", "@7")
	for _, c := range []struct {
		most  int
		vols  [3][]api.Thing
		wants string
	}{
		{math.MinInt, four, "s archive 64"}, {-1, four, "s archive 64"}, {0, four, "s archive 64"}, {1, four, "s archive 64"}, {3, four, "s archive 64"},
		{4, four, ""}, {5, four, ""}, {api.MaxNodes, four, ""}, {api.MaxNodes + 1, four, ""}, {math.MaxInt, four, ""},
		{math.MinInt, one, "a a unlike, a b unlike, b a unlike, b b unlike"}, {0, one, "a a unlike, a b unlike, b a unlike, b b unlike"}, {1, one, "a a unlike, a b unlike, b a unlike, b b unlike"},
	} {
		finds(t, fmt.Sprint("most ", c.most), c.vols, rules.None(), c.most, c.wants)
	}
	finds(t, "no archive has no bounds", volumes("a:6=x b:6=x", "", ""), rules.None(), 0, "a a unlike, a b unlike")
	// What the rules let be is decoded, too.
	finds(t, "ahead of the rules", archived(t, "", "", "a:6=x b:6=x"), parsed(t, "skip *"), 2, "s archive 64")
	finds(t, "behind the rules", archived(t, "", "", "a:6=x b:6=x"), parsed(t, "skip *"), 3, "")
}

func TestP21_3LeftOver(t *testing.T) {
	for _, c := range []struct{ what, a, b, faults string }{
		{"an empty staging place", ".twine@7", ".twine@0", ""},
		{"a file", ".twine:6=x", "", "a .twine left"},
		{"an empty file", "", ".twine:6=", "b .twine left"},
		{"a link", ".twine>x", ".twine>y", "a .twine left, b .twine left"},
		{"things below it", ".twine@7 .twine/1@7 .twine/1/f:6=x .twine/2>to .twine/1.5:6=y", "", "a .twine/1 left, a .twine/1/f left, a .twine/1.5 left, a .twine/2 left"},
		{"its name elsewhere", "d@7 d/.twine:6=x", "d@7 d/.twine@7 d/.twine/1:6=x", "a d unlike, b d unlike"},
		{"names like it", ".twines:6=x", ".twin>x", "a .twines unlike, b .twin unlike"},
	} {
		finds(t, c.what, volumes(c.a, c.b, ""), rules.None(), 100, c.faults)
	}
	// Rules are about replicas: what a run left is told whatever they say.
	for _, text := range []string{"skip *", "skip .twine", "skip /.twine/**", "skip x"} {
		finds(t, text, volumes(".twine@7 .twine/x:6=1", ".twine:6=x", "archive.new:6=x archive:7=abc"), parsed(t, text), 100, "a .twine/x left, b .twine left, s archive 60, s archive.new left")
	}
	deep := volumes("", "", "")
	deep[api.B] = chain(".twine/"+names(65), 1)
	l, e := Faults(deep, rules.None(), 100)
	want(t, "deep: error", e, api.OK)
	want(t, "deep: how many", len(l), 65)
	want(t, "deep: the last one", l[64], api.Fault{At: api.B, Path: ".twine/" + names(65), Err: api.ErrAuditLeft})
}

func TestP21_3Unsure(t *testing.T) {
	for _, c := range []struct{ what, a, o, faults string }{
		{"sure", "f:6=abc", "f:6=abc", ""},
		{"no byte sure", "f:6=abc~0", "f:6=abc", "a f unsure"},
		{"one byte isn't", "f:6=abc~2", "f:6=abc", "a f unsure"},
		{"no bytes", "f:6=~0", "f:6=", ""},
		{"another mode", "f:5=abc~0", "f:6=abc", "a f unlike"},
		{"a mode that isn't known", "f:5=abc~0", "f:8=abc", "a f unsure"},
		{"a mode that isn't known, sure", "f:5=abc", "f:8=abc", ""},
		{"a mode that isn't known, other bytes", "f:5=abd~0", "f:8=abc", "a f unlike"},
		{"other bytes", "f:6=abd~0", "f:6=abc", "a f unlike"},
		{"fewer bytes", "f:6=ab~0", "f:6=abc", "a f unlike"},
		{"not the archive's", "f:6=abc~0 g:6=x~0", "f:6=abc", "a f unsure, a g unlike"},
		{"a link there", "f:6=to~0", "f>to", "a f unlike"},
		{"a link here", "f>to", "f>to", ""},
		{"a directory there", "f:6=~0", "f@7", "a f unlike"},
		{"deep", "d@7 d/e@7 d/e/f:6*1100~1099", "d@7 d/e@7 d/e/f:6*1100", "a d/e/f unsure"},
		{"deep, below other modes", "@1 d@2 d/e@3 d/e/f:6*513~512", "@7 d@8 d/e@7 d/e/f:6*513", "a  unlike, a d/e unlike, a d/e/f unsure"},
		{"below what is new", "d@7 d/f:6=x~0", "f:6=x", "a d unlike, a f unlike"},
		{"in the staging place", ".twine@7 .twine/f:6=x~0", "@7", "a .twine/f left"},
		{"below its name elsewhere", "d@7 d/.twine@7 d/.twine/f:6=x~0", "d@7 d/.twine@7 d/.twine/f:6=x", "a d/.twine/f unsure"},
	} {
		b := strings.ReplaceAll(c.o, ":8", ":7") // as the archive has it, and sure
		finds(t, c.what, archived(t, c.a, strings.ReplaceAll(b, "@8", "@7"), c.o), rules.None(), 100, c.faults)
	}
	finds(t, "let be", archived(t, "f:6=x~0 x.o:6=x~0", "f:6=x x.o:6=y", "f:6=x x.o:6=x"), parsed(t, "skip *.o"), 100, "a f unsure")
	finds(t, "on both sides", archived(t, "f:6=x~0", "f:6=x~0", "f:6=x"), rules.None(), 100, "a f unsure, b f unsure")
}

// At one path the first one of the order is told: what stands in the staging place's stead ahead of what the archive has there.
func TestP21_3OneAPath(t *testing.T) {
	for _, c := range []struct{ what, a, o, rules, faults string }{
		{"nothing there", "", ".twine:6=x", "", "a .twine unlike"},
		{"a directory there", ".twine@7", ".twine@7", "", "a .twine unlike"},
		{"a directory there, with that in it", ".twine@7 .twine/f:6=x", ".twine@7 .twine/f:6=x", "", "a .twine unlike, a .twine/f left"},
		{"a file there", ".twine:6=y", ".twine:6=x", "", "a .twine left"},
		{"that file there", ".twine:6=x~0", ".twine:6=x", "", "a .twine left"},
		{"that link there", ".twine>x", ".twine>x", "", "a .twine left"},
		{"nothing there, let be", "", ".twine:6=x", "skip .twine", ""},
		{"a file there, let be", ".twine:6=y", ".twine:6=x", "skip .twine", "a .twine left"},
	} {
		b := "b  unlike"
		vols := archived(t, c.a, "@5", c.o)
		if strings.HasPrefix(c.o, ".twine") && c.rules == "" {
			b += ", b .twine unlike"
		}
		if c.faults != "" {
			b = c.faults + ", " + b
		}
		finds(t, c.what, vols, parsed(t, c.rules), 100, b)
	}
}

// part: something that is wrong, and what is told of it, if it is told.
type part struct {
	a, b, s, o string
	told       []api.Fault
	blocks     bool // nothing is held against this archive
	against    bool // it is held against the archive
}

func fault(volume int, p string, e api.Errno) api.Fault {
	return api.Fault{At: volume, Path: p, Err: e}
}

func parts() []part {
	one := func(volume int, p string, e api.Errno) []api.Fault { return []api.Fault{fault(volume, p, e)} }
	return []part{
		{s: "archive@7", told: one(2, "archive", api.ErrStoreKind), blocks: true},
		{s: "archive>to", told: one(2, "archive", api.ErrStoreKind), blocks: true},
		{s: "archive:7=abc", told: one(2, "archive", api.ErrCodecMark), blocks: true},
		{s: "archive.new:6=abc", told: one(2, "archive.new", api.ErrAuditLeft)},
		{a: ".twine:6=x", told: one(0, ".twine", api.ErrAuditLeft)},
		{b: ".twine>x", told: one(1, ".twine", api.ErrAuditLeft)},
		{a: ".twine@7 .twine/1:6=x", told: one(0, ".twine/1", api.ErrAuditLeft)},
		{b: ".twine@7 .twine/1@7 .twine/1/f:6=x", told: []api.Fault{fault(1, ".twine/1", api.ErrAuditLeft), fault(1, ".twine/1/f", api.ErrAuditLeft)}},
		{a: "u:6=abc~1", b: "u:6=abc", o: "u:6=abc", told: one(0, "u", api.ErrAuditUnsure), against: true},
		{a: "t:5=abc", b: "t:4=abc~2", o: "t:8=abc", told: one(1, "t", api.ErrAuditUnsure), against: true},
		{a: "v:6=x~0", told: one(0, "v", api.ErrAuditUnlike), against: true},
		{b: "d@7 d/v:6=x", told: one(1, "d", api.ErrAuditUnlike), against: true},
		{o: "w:6=x", told: []api.Fault{fault(0, "w", api.ErrAuditUnlike), fault(1, "w", api.ErrAuditUnlike)}, against: true},
		{a: "@5", o: "@7", told: one(0, "", api.ErrAuditUnlike), against: true},
		{b: "@5", o: "@7", told: one(1, "", api.ErrAuditUnlike), against: true},
		{a: "e@7 e/f@7", b: "e@6 e/f@7", o: "e@7 e/f@5", told: []api.Fault{fault(0, "e/f", api.ErrAuditUnlike), fault(1, "e", api.ErrAuditUnlike), fault(1, "e/f", api.ErrAuditUnlike)}, against: true},
	}
}

// meets tells whether two parts speak of one place, so that they can't stand beside each other.
func meets(x, y part) bool {
	for _, l := range [][2]string{{x.a, y.a}, {x.b, y.b}, {x.s, y.s}} {
		for _, p := range things(1, l[0]) {
			if _, ok := find(things(1, l[1]), p.Path); ok {
				return true
			}
		}
	}
	return false
}

// beside: what is told of two parts that stand beside each other.
func beside(t testing.TB, x, y part) ([3][]api.Thing, []api.Fault) {
	t.Helper()
	vols := volumes(x.a+" "+y.a, x.b+" "+y.b, x.s+" "+y.s)
	blocks := x.blocks || y.blocks
	if !blocks {
		file := archiveThing(encoded(t, grown(t, x.o+" "+y.o), 3))[0]
		file.Number = 999
		vols[api.S] = append(vols[api.S], file)
	}
	var told []api.Fault
	for _, p := range []part{x, y} {
		if !p.against || !blocks {
			told = append(told, p.told...)
		}
	}
	return vols, risen(told)
}

// Each fault alone, and beside each other one.
func TestP21_3Pairs(t *testing.T) {
	pairs := 0
	for i, x := range parts() {
		vols, told := beside(t, x, part{})
		finds(t, fmt.Sprint("part ", i), vols, rules.None(), 100, toldFaults(told))
		for j, y := range parts()[:i] {
			if meets(x, y) {
				continue
			}
			vols, told := beside(t, x, y)
			finds(t, fmt.Sprint("parts ", j, " and ", i), vols, rules.None(), 100, toldFaults(told))
			pairs++
		}
	}
	if pairs < 80 {
		t.Errorf("but %d pairs", pairs)
	}
}

// Faults rise by volume, and within one by path.
func TestP21_3Order(t *testing.T) {
	vols := archived(t,
		"@1 a.b:6=x a@7 a/b:6=x b:6=x~0 \xff:6=x .twine@7 .twine/z:6=x .twine/a:6=x",
		"b:6=x .twine:6=x a.b:6=y a@5",
		"a@7 a.b:6=x b:6=x c>to")
	vols[api.S] = append(vols[api.S], things(901, "archive.new@7")...)
	finds(t, "order", vols, rules.None(), 100, "a  unlike, a .twine/a left, a .twine/z left, a a/b unlike, a b unsure, a c unlike, a \xff unlike, b .twine left, b a unlike, b a.b unlike, b c unlike, s archive.new left")
	u := authorOf(2)
	l, _ := Faults(vols, rules.None(), 100)
	for range 100 {
		for v := range vols {
			u.r.Shuffle(len(vols[v]), func(i, j int) { vols[v][i], vols[v][j] = vols[v][j], vols[v][i] })
		}
		again, _ := Faults(vols, rules.None(), 100)
		mustWant(t, "in another order", toldFaults(again), toldFaults(l))
	}
}

// By chance: what the plain one tells.
func TestP21_3Plain(t *testing.T) {
	t.Parallel()
	told := map[api.Errno]int{}
	for seed := range 6000 {
		u := authorOf(seed)
		s := u.scene(t)
		if u.rarely(2) {
			u.odd(t, &s)
		}
		if u.rarely(20) {
			v := u.r.Intn(3)
			s.vols[v] = u.twist(s.vols[v])
		}
		s.most = u.one(-1, 0, 1, 2, 3, 4, 5, 8, 12, 100, 100, 100, 100, api.MaxNodes+1)
		l, e := Faults(s.vols, s.rules, s.most)
		m, f := plainFaults(s.vols, s.rules, s.most)
		want(t, fmt.Sprint("scene ", seed, ": error"), e, f)
		want(t, fmt.Sprint("scene ", seed, ": faults"), toldFaults(l), toldFaults(m))
		for _, x := range l {
			told[x.Err]++
		}
		told[e]++
	}
	for _, e := range []api.Errno{api.OK, api.ErrAuditThings, api.ErrAuditLeft, api.ErrAuditUnsure, api.ErrAuditUnlike, api.ErrStoreKind, api.ErrCodecMark, api.ErrCodecVersion, api.ErrCodecSum, api.ErrCodecForm, api.ErrCodecBounds, api.ErrCodecHash} {
		if told[e] < 10 {
			t.Errorf("%d was told but %d times", e, told[e])
		}
	}
}

// P21.4: where the archive and a replica are unlike.
func TestP21_4Unlike(t *testing.T) {
	for _, c := range []struct{ what, a, o, faults string }{
		{"the first archive", "", "", ""},
		{"the first archive, another mode", "@3", "", ""},
		{"the first archive, things", "d@7 d/e@7 d/e/f:6=x g:6=x l>to", "", "d g l"},
		{"the root's mode", "@5", "@7", "/"},
		{"the root's mode isn't known", "@5", "@8", ""},
		{"the root's mode, and a child", "@5 f:6=x", "@7", "/ f"},
		{"a directory's mode", "d@5", "d@7", "d"},
		{"a directory's mode isn't known", "d@5", "d@8", ""},
		{"a directory's mode, and what is in it", "d@5 d/e@5 d/e/f:6=x", "d@7 d/e@5 d/e/f:6=y", "d d/e/f"},
		{"what is in directories of unknown modes", "@1 d@5 d/e@5 d/e/f:6=x", "@8 d@8 d/e@8 d/e/f:6=y", "d/e/f"},
		{"modes on all levels", "@1 d@2 d/e@3 d/e/f:4=x", "@2 d@3 d/e@4 d/e/f:5=x", "/ d d/e d/e/f"},
		{"a file's mode", "f:6=x", "f:7=x", "f"},
		{"a file's mode isn't known", "f:6=x", "f:8=x", ""},
		{"a file's size", "f:6=x", "f:6=xx", "f"},
		{"a file's bytes", "f:6*1100", "f:6=" + strings.Repeat("y", 1100), "f"},
		{"a file's bytes, its mode not known", "f:6=x", "f:8=y", "f"},
		{"a link's target", "l>x", "l>y", "l"},
		{"the same link", "l>x", "l>x", ""},
		{"a file and a link", "f:6=to", "f>to", "f"},
		{"a link and a file", "f>to", "f:8=to", "f"},
		{"a file and a directory", "f:6=", "f@8", "f"},
		{"a directory and a file", "f@7", "f:8=", "f"},
		{"a directory with contents and a file", "f@7 f/g:6=x f/d@7", "f:6=x", "f"},
		{"a file and a directory with contents", "f:6=x", "f@7 f/g:6=x f/d@7", "f"},
		{"a link and a directory with contents", "f>x", "f@7 f/g:6=x f/d@7", "f"},
		{"here alone", "d@7 d/a:6=x", "d@7", "d/a"},
		{"there alone", "d@7", "d@7 d/a:6=x", "d/a"},
		{"a directory here alone", "a@7 a/b@7 a/b/c:6=x", "@7", "a"},
		{"a directory there alone", "@7", "a@8 a/b@8 a/b/c:8=x", "a"},
		{"names on both sides and on one", "a:6=x b:6=x d@7 d/a:6=x d/b:6=x", "b:6=x c:6=x d@7 d/b:6=x d/c:6=x", "a c d/a d/c"},
		{"all alike", "@5 d@4 d/e@3 d/e/f:2=x d/g>to h:0=", "@5 d@4 d/e@3 d/e/f:2=x d/g>to h:0=", ""},
		{"all modes unknown", "@5 d@4 d/e@3 d/e/f:2=x d/g>to h:0=", "@8 d@8 d/e@8 d/e/f:8=x d/g>to h:8=", ""},
		{"modes of a subtree that isn't there", "@7", "d@8 d/f:8=x", "d"},
	} {
		vols := archived(t, c.a, "", c.o)
		both := archived(t, "", c.a, c.o)
		paths := strings.Fields(c.faults)
		for v, l := range [2][3][]api.Thing{vols, both} {
			faults, e := Faults(l, rules.None(), 100)
			want(t, c.what+": error", e, api.OK)
			var got []string
			for _, f := range faults {
				if f.At == v {
					want(t, c.what+": "+f.Path, f.Err, api.ErrAuditUnlike)
					got = append(got, f.Path)
				}
			}
			want(t, c.what, toldPaths(got), strings.Join(paths, " "))
		}
	}
}

// What the rules let be is unlike nowhere: neither what stands there nor what the archive remembers.
func TestP21_4LetBe(t *testing.T) {
	r := parsed(t, "skip *.o\nskip /d/e")
	finds(t, "let be", archived(t, "x.o:6=1 d@7 d/e@7 d/e/f:6=x d/x.o@7", "d@7 d/e:6=x", "y.o:6=2 d@7 d/e@7 d/e/g:6=x d/y.o>x"), r, 100, "")
	finds(t, "and what isn't", archived(t, "x.o:6=1 d@5 f:6=x", "d@7 g:6=x", "y.o:6=2 d@7 g:6=x"), r, 100, "a d unlike, a f unlike, a g unlike")
	finds(t, "a directory that is held here and isn't there", archived(t, "d@7 d/x.o:6=1", "", "@7"), r, 100, "a d unlike")
}

// That it goes to the bottom: MaxDepth names.
func TestP21_4Deep(t *testing.T) {
	p := names(63) + "/f"
	x := fileThing(p)
	x.Number, x.Sure = 999, 3
	here := append(chain(above(p), 1), x)
	m := values{"": {Kind: api.Dir, Mode: 7}}
	for _, y := range here {
		m[y.Path] = valued(y)
	}
	vols := [3][]api.Thing{here, nil, archiveThing(encoded(t, m.tree(t), 3))}
	vols[api.S][0].Number = 5000
	finds(t, "alike", vols, rules.None(), 100, "b n unlike")
	vols[api.A][len(here)-1].Sure = 2
	finds(t, "unsure", vols, rules.None(), 100, "a "+p+" unsure, b n unlike")
	vols[api.A][len(here)-1].Data = []byte("abd")
	finds(t, "other bytes", vols, rules.None(), 100, "a "+p+" unlike, b n unlike")
}

// What is told as unlike is, and all that isn't told is alike: with the archive's subtrees put in at the paths that are told, trees are the same.
func TestP21_4Mends(t *testing.T) {
	t.Parallel()
	for seed := range 1500 {
		u := authorOf(seed)
		s := u.scene(t)
		l, e := Faults(s.vols, s.rules, api.MaxNodes)
		mustWant(t, "Faults", e, api.OK)
		x, e := plainArchive(s.vols[api.S], api.MaxNodes)
		mustWant(t, "the archive", e, api.OK)
		o := recon.Trim(x, s.rules)
		for v := range 2 {
			m, _ := plainReplica(s.vols[v], s.rules)
			there := valuesOf(o)
			for _, f := range l {
				if f.At != v || f.Err != api.ErrAuditUnlike {
					continue
				}
				if m[f.Path].Kind == api.Dir && there[f.Path].Kind == api.Dir {
					m[f.Path] = there[f.Path]
				} else {
					m.put(f.Path, there.at(f.Path))
				}
			}
			want(t, fmt.Sprint("scene ", seed, ", volume ", v), tree.Same(m.tree(t), o, true), true)
		}
	}
}
