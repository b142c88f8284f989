package audit

import (
	"errors"
	"maps"
	"slices"
	"strings"
	"testing"

	"twine/api"
	"twine/codec"
	"twine/outcome"
	"twine/plan"
	"twine/recon"
	"twine/rules"
	"twine/tree"
)

// This file: the chapter, written down plainly, over values by path; slow, and without the layer's ways.

// values: what stands where.
type values map[string]api.Value

func compare(a, b string) int {
	if a == "" || b == "" {
		return strings.Compare(a, b)
	}
	return slices.Compare(strings.Split(a, "/"), strings.Split(b, "/"))
}

func (m values) paths() []string { return slices.SortedFunc(maps.Keys(m), compare) }

// above: the path of the directory in which a thing stands.
func above(p string) string { return p[:max(strings.LastIndexByte(p, '/'), 0)] }

// lies tells whether p is at, or below, root.
func lies(p, root string) bool { return root == "" || p == root || strings.HasPrefix(p, root+"/") }

func isStaging(p string) bool { return lies(p, ".twine") }

func (m values) tree(t testing.TB) *tree.Tree {
	t.Helper()
	var x *tree.Tree
	for _, p := range m.paths() {
		s, e := tree.Of(api.Node{Value: m[p]})
		mustWant(t, "tree.Of "+p, e, api.OK)
		if p == "" {
			x = s
			continue
		}
		x, e = x.Put(p, s)
		mustWant(t, "Put "+p, e, api.OK)
	}
	return x
}

func valuesOf(x *tree.Tree) values {
	m := values{}
	for p, v := range x.All() {
		m[p] = v
	}
	return m
}

// at: the values at p and below it, by what is left of their paths.
func (m values) at(p string) values {
	sub := values{}
	for q, v := range m {
		if lies(q, p) {
			sub[q[len(p):]] = v
		}
	}
	return sub
}

// put: the subtree at p is another one.
func (m values) put(p string, sub values) {
	for q := range maps.Clone(m) {
		if lies(q, p) {
			delete(m, q)
		}
	}
	for q, v := range sub {
		m[p+q] = v
	}
}

// sameOpen: the same as an archive's.
func sameOpen(m, o values) bool {
	return maps.EqualFunc(m, o, func(v, w api.Value) bool {
		if w.Mode == api.Unknown {
			v.Mode = w.Mode
		}
		return v == w
	})
}

// isName and isWay: P3.2, P3.3.
func isName(s string) bool {
	return len(s) >= 1 && len(s) <= 255 && !strings.ContainsAny(s, "/\x00") && s != "." && s != ".."
}

func isWay(p string, most int) bool {
	if p == "" {
		return true
	}
	names := strings.Split(p, "/")
	return len(names) <= most && !slices.ContainsFunc(names, func(s string) bool { return !isName(s) })
}

// canBe: P21.1, of one volume.
func canBe(l []api.Thing) bool {
	for i, x := range l {
		most := 64
		if isStaging(x.Path) {
			most = 66
		}
		if !isWay(x.Path, most) || x.Number < 1 || x.Number > 1<<56-1 || x.Stamp < 1 || x.Stamp > 1<<56-1 {
			return false
		}
		switch x.Kind {
		case api.Dir:
			if x.Mode < 0 || x.Mode > 7 || len(x.Data) > 0 || x.Sure != 0 {
				return false
			}
		case api.File:
			if x.Path == "" || x.Mode < 0 || x.Mode > 7 || x.Sure < 0 || x.Sure > len(x.Data) {
				return false
			}
		case api.Link:
			if x.Path == "" || x.Mode != 0 || x.Sure != 0 || len(x.Data) < 1 || len(x.Data) > 4095 || slices.Contains(x.Data, 0) {
				return false
			}
		default:
			return false
		}
		for _, y := range l[:i] {
			if y.Path == x.Path || y.Number == x.Number {
				return false
			}
		}
		if up := above(x.Path); up != "" && !slices.ContainsFunc(l, func(y api.Thing) bool { return y.Path == up && y.Kind == api.Dir }) {
			return false
		}
	}
	return true
}

// canBeAll: P21.1, of three volumes.
func canBeAll(vols [3][]api.Thing) bool {
	seen := map[int]bool{}
	for _, l := range vols {
		if !canBe(l) {
			return false
		}
		for _, x := range l {
			if seen[x.Number] {
				return false
			}
			seen[x.Number] = true
		}
	}
	return true
}

// plainReplica: P21.2, of things that can be a volume's.
func plainReplica(l []api.Thing, r *rules.Rules) (values, []string) {
	m := values{"": {Kind: api.Dir, Mode: 7}}
	for _, x := range l {
		if !isStaging(x.Path) && !r.Skip(x.Path) {
			m[x.Path] = valued(x)
		}
	}
	var held []string
	for _, p := range m.paths() {
		if slices.ContainsFunc(l, func(x api.Thing) bool {
			return x.Path != p && lies(x.Path, p) && !isStaging(x.Path) && r.Skip(x.Path)
		}) {
			held = append(held, p)
		}
	}
	return m, held
}

// find: what stands at a path of a volume.
func find(l []api.Thing, p string) (api.Thing, bool) {
	i := slices.IndexFunc(l, func(x api.Thing) bool { return x.Path == p })
	if i < 0 {
		return api.Thing{}, false
	}
	return l[i], true
}

// plainArchive: the archive's tree, what the rules let be too; nil and an error, if what stands there is none.
func plainArchive(l []api.Thing, most int) (*tree.Tree, api.Errno) {
	x, ok := find(l, "archive")
	if !ok {
		t, e := tree.Of(api.Node{Value: api.Value{Kind: api.Dir, Mode: 8}})
		return t, e
	}
	if x.Kind != api.File {
		return nil, api.ErrStoreKind
	}
	t, _, err := codec.Decode(x.Data, most)
	var f *api.Fault
	if errors.As(err, &f) {
		return nil, f.Err
	}
	return t, api.OK
}

// plainFaults: P21.3.
func plainFaults(vols [3][]api.Thing, r *rules.Rules, most int) ([]api.Fault, api.Errno) {
	if !canBeAll(vols) {
		return nil, api.ErrAuditThings
	}
	x, e := plainArchive(vols[2], most)
	var l []api.Fault
	add := func(v int, p string, e api.Errno) {
		if !slices.ContainsFunc(l, func(f api.Fault) bool { return f.At == v && f.Path == p }) {
			l = append(l, api.Fault{At: v, Path: p, Err: e})
		}
	}
	if e != api.OK {
		add(2, "archive", e)
	}
	if _, ok := find(vols[2], "archive.new"); ok {
		add(2, "archive.new", api.ErrAuditLeft)
	}
	for v := range 2 {
		for _, y := range vols[v] {
			if y.Path == ".twine" && y.Kind != api.Dir || y.Path != ".twine" && isStaging(y.Path) {
				add(v, y.Path, api.ErrAuditLeft)
			}
		}
		if e != api.OK {
			continue
		}
		o := valuesOf(recon.Trim(x, r))
		t, _ := plainReplica(vols[v], r)
		for p, value := range t {
			y, _ := find(vols[v], p)
			if value.Kind == api.File && o[p].Kind == api.File && sameOpen(t.at(p), o.at(p)) && y.Sure < len(y.Data) {
				add(v, p, api.ErrAuditUnsure)
			}
		}
		for _, p := range plainUnlike(t, o, "") {
			add(v, p, api.ErrAuditUnlike)
		}
	}
	return risen(l), api.OK
}

// risen: faults in their order.
func risen(l []api.Fault) []api.Fault {
	return slices.SortedFunc(slices.Values(l), func(f, g api.Fault) int {
		if f.At != g.At {
			return f.At - g.At
		}
		return compare(f.Path, g.Path)
	})
}

// plainUnlike: P21.4, from p down.
func plainUnlike(t, o values, p string) []string {
	if t[p].Kind != api.Dir || o[p].Kind != api.Dir {
		if sameOpen(t.at(p), o.at(p)) {
			return nil
		}
		return []string{p}
	}
	var l []string
	if o[p].Mode != api.Unknown && t[p].Mode != o[p].Mode {
		l = append(l, p)
	}
	kids := values{}
	for _, m := range []values{t, o} {
		for q, v := range m {
			if q != "" && above(q) == p {
				kids[q] = v
			}
		}
	}
	for q := range kids {
		l = append(l, plainUnlike(t, o, q)...)
	}
	return l
}

// plainAfter: P21.5.
func plainAfter(t testing.TB, vols [3][]api.Thing, r *rules.Rules, most int) (api.Outlook, api.Errno) {
	t.Helper()
	if !canBeAll(vols) {
		return api.Outlook{}, api.ErrAuditThings
	}
	x, e := plainArchive(vols[2], most)
	if e != api.OK {
		return api.Outlook{}, e
	}
	a, heldA := plainReplica(vols[0], r)
	b, heldB := plainReplica(vols[1], r)
	if n := min(max(most, 1), 1<<20); len(a) > n || len(b) > n {
		return api.Outlook{}, api.ErrRunMost
	}
	o := recon.Trim(x, r)
	m := recon.Merge(a.tree(t), b.tree(t), o, [2][]string{}, [2][]string{heldA, heldB}, r)
	p := plan.Of(m, most)
	var done []api.Done
	for _, it := range p.Items {
		done = append(done, api.Done{Item: it.Number, How: api.HowPut})
	}
	hows := outcome.Hows(m, p, done)
	sides := [2]values{maps.Clone(a), maps.Clone(b)}
	from := [2]values{a, b}
	for _, it := range p.Items {
		if it.What == api.Both {
			sides[it.To][it.Path] = api.Value{Kind: api.Dir, Mode: it.Mode}
		} else {
			sides[it.To].put(it.Path, from[it.From].at(it.Path))
		}
	}
	return api.Outlook{
		A: sides[0].tree(t).Node(), B: sides[1].tree(t).Node(),
		O:      valuesOf(outcome.Archive(a.tree(t), b.tree(t), o, m, hows)).tree(t).Node(),
		Report: api.Report{Over: api.OverEnd, Saved: api.SavedYes, Entries: outcome.Report(m, hows)},
	}, api.OK
}
