package run

import (
	"errors"
	"iter"
	"slices"

	"twine/api"
	"twine/apply"
	"twine/codec"
	"twine/outcome"
	"twine/path"
	"twine/plan"
	"twine/recon"
	"twine/rules"
	"twine/scan"
	"twine/store"
	"twine/tree"
	"twine/world"
)

// This file: a run in the plainest way: DOC.md's table written straight down, from the first line to the last. It halts behind each step and goes on from there at the next Do. The archive's file, the staging places and the files that are made sure are seen to by calls of the world alone.

// runner: what a Run and a plain one are asked.
type runner interface {
	Begin(r *rules.Rules) api.Errno
	Do() api.Reply
	Cancel() api.Errno
	Forget() api.Errno
	Status() api.Status
	Merge() (api.Merge, api.Plan)
	Report() api.Report
}

type plainRun struct {
	w      *world.World
	most   int
	forget bool

	rules     *rules.Rules
	claim     int
	over      bool
	last      int // what the last step told
	item      int // the one under way
	put       bool
	planned   bool
	cancelled bool
	forgot    bool
	saved     int
	old       *tree.Tree
	scans     [2]*scan.Scan
	merge     api.Merge
	plan      api.Plan
	done      []api.Done
	weak      map[int]int // places of cells
	settled   bool        // the volumes were synced
	bytes     []byte      // of the new archive
	report    api.Report

	next  func() (api.Reply, bool)
	stop  func()
	yield func(api.Reply) bool
}

var errEnded = errors.New("the run has ended")

func plainOf(w *world.World, most int) *plainRun { return &plainRun{w: w, most: most} }

func (p *plainRun) on() bool { return p.next != nil && !p.over && p.w.Owns(p.claim) }

func (p *plainRun) Begin(r *rules.Rules) api.Errno {
	if p.on() {
		return api.ErrRunRunning
	}
	claim := p.w.Claim()
	if claim == 0 {
		return api.ErrRunRunning
	}
	p.end()
	*p = plainRun{w: p.w, most: p.most, forget: p.forget, rules: r, claim: claim, last: api.DidBegin, weak: map[int]int{}}
	p.next, p.stop = iter.Pull(func(yield func(api.Reply) bool) {
		defer func() {
			if x := recover(); x != nil && x != errEnded {
				panic(x)
			}
		}()
		p.yield = yield
		p.all()
	})
	return api.OK
}

// end lets go of a run that halts somewhere.
func (p *plainRun) end() {
	if p.stop != nil {
		p.stop()
	}
}

func (p *plainRun) Do() api.Reply {
	if !p.on() {
		return api.Reply{Err: api.ErrRunNone}
	}
	r, _ := p.next()
	p.last = r.Did
	return r
}

func (p *plainRun) Cancel() api.Errno {
	if !p.on() {
		return api.ErrRunNone
	}
	if p.cancelled || !p.planned {
		p.close(api.OverCancel, api.OK)
		return api.OK
	}
	p.cancelled = true
	if !p.put {
		p.item = 0
	}
	return api.OK
}

func (p *plainRun) Forget() api.Errno {
	if p.on() {
		return api.ErrRunRunning
	}
	p.forget = true
	return api.OK
}

func (p *plainRun) Status() api.Status {
	if !p.on() {
		return api.Status{}
	}
	return api.Status{Phase: p.last, Item: p.item, Items: len(p.plan.Items), Cancelled: p.cancelled}
}

func (p *plainRun) Merge() (api.Merge, api.Plan) { return p.merge, p.plan }

func (p *plainRun) Report() api.Report { return p.report }

// hows: how each cell has ended by now.
func (p *plainRun) hows() []int {
	hows := outcome.Hows(p.merge, p.plan, p.done)
	for cell := range p.weak {
		hows[cell] = api.HowWeak
	}
	return hows
}

func (p *plainRun) close(over int, e api.Errno) {
	p.over = true
	p.w.Release(p.claim)
	p.report = api.Report{Over: over, Saved: p.saved, Err: e, Forgot: p.forgot, Entries: outcome.Report(p.merge, p.hows())}
}

// tell halts behind a step.
func (p *plainRun) tell(r api.Reply) {
	if !p.yield(r) {
		panic(errEnded)
	}
}

// ends: the run is over by this step.
func (p *plainRun) ends(did int, e api.Errno) {
	p.close(map[int]int{api.DidEnd: api.OverEnd, api.DidBad: api.OverBad, api.DidFault: api.OverFault}[did], e)
	p.tell(api.Reply{Did: did, Err: e})
	panic(errEnded)
}

// must: a call whose error ends the run.
func (p *plainRun) must(e api.Errno) {
	if e != api.OK {
		p.ends(api.DidFault, e)
	}
}

func (p *plainRun) all() {
	p.load()
	p.clean(api.A)
	p.clean(api.B)
	p.scan(api.A)
	p.scan(api.B)
	p.reckon()
	for _, it := range p.plan.Items {
		if !p.cancelled {
			p.do(it)
		}
	}
	p.secure()
	p.save()
	p.ends(api.DidEnd, api.OK)
}

func (p *plainRun) load() {
	p.must(p.w.SyncVolume(api.S))
	p.tell(api.Reply{Did: api.DidLoad})
	_, e := p.w.Stat(api.S, "archive.new")
	if e == api.OK {
		e = p.w.Remove(api.S, "archive.new")
	}
	if e == api.ErrWorldFault {
		p.ends(api.DidFault, e)
	}
	if e != api.OK && e != api.ErrWorldNone {
		p.ends(api.DidBad, e)
	}
	t, e := p.read()
	if e == api.ErrWorldFault {
		p.ends(api.DidFault, e)
	}
	if p.forget {
		t, e, p.forgot = store.First(), api.OK, true
	}
	if e != api.OK {
		p.ends(api.DidBad, e)
	}
	p.old = recon.Trim(t, p.rules)
	p.tell(api.Reply{Did: api.DidLoad})
}

// read: the archive's tree.
func (p *plainRun) read() (*tree.Tree, api.Errno) {
	s, e := p.w.Stat(api.S, "archive")
	if e == api.ErrWorldNone {
		return store.First(), api.OK
	}
	if e != api.OK {
		return nil, e
	}
	if s.Kind != api.File {
		return nil, api.ErrStoreKind
	}
	if e := p.w.Sync(api.S, "archive"); e != api.OK {
		return nil, e
	}
	b, e := p.w.Read(api.S, "archive", s.Number, 0, s.Size)
	if e != api.OK {
		return nil, e
	}
	t, _, err := codec.Decode(b, p.most)
	var f *api.Fault
	if errors.As(err, &f) {
		return nil, f.Err
	}
	return t, api.OK
}

func (p *plainRun) clean(v int) {
	for {
		s, e := p.w.Stat(v, ".twine")
		if e == api.ErrWorldNone {
			p.must(p.w.Mkdir(v, ".twine"))
			p.tell(api.Reply{Did: api.DidClean, Path: ".twine"})
			continue
		}
		p.must(e)
		last := ".twine"
		if s.Kind == api.Dir {
			last = p.deepest(v, ".twine")
			if last == ".twine" {
				return
			}
		}
		p.must(p.w.Remove(v, last))
		p.tell(api.Reply{Did: api.DidClean, Path: last})
	}
}

func (p *plainRun) deepest(v int, dir string) string {
	names, e := p.w.List(v, dir)
	p.must(e)
	if len(names) == 0 {
		return dir
	}
	last := dir + "/" + names[len(names)-1]
	s, e := p.w.Stat(v, last)
	p.must(e)
	if s.Kind == api.Dir {
		return p.deepest(v, last)
	}
	return last
}

func (p *plainRun) scan(v int) {
	s := scan.New(p.w, v, p.rules, p.old)
	p.scans[v] = s
	for at, ok := s.Next(); ok; at, ok = s.Next() {
		s.Step()
		p.tell(api.Reply{Did: api.DidScan, Path: at})
	}
	if s.Tree().Count() > min(max(p.most, 1), api.MaxNodes) {
		p.ends(api.DidBad, api.ErrRunMost)
	}
}

func (p *plainRun) reckon() {
	var lost, held [2][]string
	for v, s := range p.scans {
		for _, l := range s.Lost() {
			lost[v] = append(lost[v], l.Path)
		}
		held[v] = s.Held()
	}
	p.merge = recon.Merge(p.scans[0].Tree(), p.scans[1].Tree(), p.old, lost, held, p.rules)
	p.plan = plan.Of(p.merge, p.most)
	p.planned = true
	p.tell(api.Reply{Did: api.DidPlan})
}

func (p *plainRun) do(it api.Item) {
	src, _ := p.scans[it.From].Tree().Sub(it.Path)
	dst, _ := p.scans[it.To].Tree().Sub(it.Path)
	m := apply.New(p.w, it, src, dst)
	for m.Phase() != api.DidNothing && !(p.cancelled && !p.put) {
		did, e := m.Step()
		p.item = it.Number
		if did == api.DidPut {
			p.put = true
		}
		if did == api.DidPut || did == api.DidOvertaken || did == api.DidFailed {
			p.done = append(p.done, m.Done())
		}
		if m.Phase() == api.DidNothing {
			p.item, p.put = 0, false
		}
		p.tell(api.Reply{Did: did, Err: e, Item: it.Number, Path: it.Path})
	}
}

// toBeSure: a file that is made sure.
type toBeSure struct{ number, stamp, cell int }

func (p *plainRun) filesOf(v int) []toBeSure {
	var l []toBeSure
	hows := p.hows()
	for i, c := range p.merge.Cells {
		if c.What == api.Agreed && hows[i] == api.HowNone || c.What == api.Carry && hows[i] == api.HowPut && c.Side-1 == v {
			l = append(l, p.readBy(v, i)...)
		}
	}
	for _, d := range p.done {
		it := p.plan.Items[d.Item-1]
		for _, x := range d.Put {
			if it.To == v {
				l = append(l, toBeSure{x.Number, x.Stamp, it.Cell})
			}
		}
	}
	slices.SortStableFunc(l, func(a, b toBeSure) int { return a.number - b.number })
	return l
}

func (p *plainRun) readBy(v, cell int) []toBeSure {
	var l []toBeSure
	for q, value := range p.scans[v].Tree().All() {
		if value.Kind != api.File || !path.Under(q, p.merge.Cells[cell].Path) {
			continue
		}
		if mark, quick, _ := p.scans[v].Thing(q); !quick {
			l = append(l, toBeSure{mark.Number, mark.Stamp, cell})
		}
	}
	return l
}

func (p *plainRun) secure() {
	files := [2][]toBeSure{p.filesOf(api.A), p.filesOf(api.B)}
	for v, l := range files {
		for _, f := range l {
			e := p.w.SyncThing(v, f.number, f.stamp)
			if e != api.OK {
				p.weak[f.cell]++
			}
			p.tell(api.Reply{Did: api.DidSure, Err: e})
		}
	}
	for v := range files {
		p.must(p.w.SyncVolume(v))
		p.settled = v == api.B
		p.tell(api.Reply{Did: api.DidSure})
	}
}

func (p *plainRun) save() {
	p.bytes, _ = codec.Encode(outcome.Archive(p.scans[0].Tree(), p.scans[1].Tree(), p.old, p.merge, p.hows()), 3, p.most)
	calls := []func() api.Errno{func() api.Errno { return p.w.Create(api.S, "archive.new") }}
	for piece := range slices.Chunk(p.bytes, 512) {
		calls = append(calls, func() api.Errno { return p.w.Append(api.S, "archive.new", piece) })
	}
	calls = append(calls,
		func() api.Errno { return p.w.Sync(api.S, "archive.new") },
		func() api.Errno { return p.w.SyncVolume(api.S) },
		func() api.Errno { return p.renamed(p.w.Rename(api.S, "archive.new", "archive"), api.SavedPerhaps) },
		func() api.Errno { return p.renamed(p.w.SyncVolume(api.S), api.SavedYes) },
	)
	for _, call := range calls {
		p.must(call())
		p.tell(api.Reply{Did: api.DidSave})
	}
}

// renamed notes how far the save came by a call.
func (p *plainRun) renamed(e api.Errno, saved int) api.Errno {
	if e == api.OK {
		p.saved, p.forget = saved, false
	}
	return e
}
