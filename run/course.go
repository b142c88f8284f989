package run

import (
	"twine/api"
	"twine/outcome"
	"twine/rules"
	"twine/store"
	"twine/world"
)

// site: the world that runs are over, and how many nodes a tree may have.
type site struct {
	world *world.World
	most  int
}

// tale: what is told of a run when it is over, too.
type tale struct {
	merge  api.Merge
	plan   api.Plan
	report api.Report // as far as it is known; nobody is told of it as long as Over is OverNot
}

// course: a run, from its Begin on.
type course struct {
	site
	tale
	sights
	work
	claim     int // 0: it is over, or there was none
	rules     *rules.Rules
	forgets   bool
	cancelled bool
	did       int     // what its last step told
	next      phase   // of what the next step is
	later     []phase // behind that, in their order
	loader    *store.Loader
	hows      []int  // how each cell would have ended, if the run were over now
	unsure    []file // from the gathering on in the order in which they are made sure
	saver     *store.Saver
}

// phase does the next step of a part of a run; DidNothing: nothing is left to do there, and that was no step.
type phase func(c *course) api.Reply

// phases tells the parts of a run in their order.
func phases() []phase {
	return []phase{
		once((*course).openArchive),
		once((*course).readArchive),
		cleaning(api.A),
		cleaning(api.B),
		scanning(api.A),
		counting(api.A),
		scanning(api.B),
		counting(api.B),
		once((*course).reconcile),
		(*course).doItem,
		(*course).gatherFiles,
		(*course).secureFile,
		once(settling(api.A)),
		once(settling(api.B)),
		(*course).encode,
		(*course).save,
		(*course).finish,
	}
}

// once has a phase be one step.
func once(do phase) phase {
	return func(c *course) api.Reply {
		c.goOn()
		return do(c)
	}
}

func begun(s site, claim int, r *rules.Rules, forgets bool) course {
	c := course{site: s, claim: claim, rules: r, forgets: forgets, did: api.DidBegin, later: phases()}
	c.goOn()
	return c
}

// goOn goes on to the next phase; there is one, since nothing comes behind the last one's step.
func (c *course) goOn() { c.next, c.later = c.later[0], c.later[1:] }

// isOn tells whether there is a run. A fall takes the claim from it.
func (c *course) isOn() bool { return c.claim != 0 && c.world.Owns(c.claim) }

// isPlanned tells whether the run told DidPlan: a merge has the root's cell at least.
func (c *course) isPlanned() bool { return len(c.merge.Cells) > 0 }

func (c *course) step() api.Reply {
	r := c.next(c)
	for r.Did == api.DidNothing {
		c.goOn()
		r = c.next(c)
	}
	c.did = r.Did
	switch r.Did {
	case api.DidEnd:
		c.end(api.OverEnd, api.OK)
	case api.DidBad:
		c.end(api.OverBad, r.Err)
	case api.DidFault:
		c.end(api.OverFault, r.Err)
	}
	return r
}

// end has the run over.
func (c *course) end(over int, e api.Errno) {
	c.world.Release(c.claim)
	c.report.Over, c.report.Err = over, e
	c.report.Entries = outcome.Report(c.merge, c.hows)
	c.letGo()
}

// letGo keeps what is told of a run that isn't on any more, and nothing else.
func (c *course) letGo() { *c = course{site: c.site, tale: c.tale} }

// cancel leaves out what isn't put.
func (c *course) cancel() {
	c.cancelled = true
	c.leave()
}

func (c *course) status() api.Status {
	return api.Status{Phase: c.did, Item: c.underWay(), Items: len(c.plan.Items), Cancelled: c.cancelled}
}

func bad(e api.Errno) api.Reply { return api.Reply{Did: api.DidBad, Err: e} }

func fault(e api.Errno) api.Reply { return api.Reply{Did: api.DidFault, Err: e} }
