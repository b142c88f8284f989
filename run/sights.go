package run

import (
	"twine/api"
	"twine/outcome"
	"twine/plan"
	"twine/recon"
	"twine/rules"
	"twine/scan"
	"twine/tree"
)

// sights: what a merge is made of.
type sights struct {
	old   *tree.Tree // the archive's, without what the rules let be
	scans [2]*scan.Scan
}

func scanning(v int) phase {
	return func(c *course) api.Reply {
		if c.scans[v] == nil {
			c.scans[v] = scan.New(c.world, v, c.rules, c.old)
		}
		p, _ := c.scans[v].Next()
		if !c.scans[v].Step() {
			return api.Reply{}
		}
		return api.Reply{Did: api.DidScan, Path: p}
	}
}

// counting takes a step only where a replica has too many nodes.
func counting(v int) phase {
	return func(c *course) api.Reply {
		if c.scans[v].Tree().Count() > c.most {
			return bad(api.ErrRunMost)
		}
		return api.Reply{}
	}
}

func (c *course) reconcile() api.Reply {
	c.merge = c.merged(c.rules)
	c.plan = plan.Of(c.merge, c.most)
	c.hows = outcome.Hows(c.merge, c.plan, nil) // an item that is never come to is left
	c.todo = c.plan.Items
	return api.Reply{Did: api.DidPlan}
}

func (s sights) merged(r *rules.Rules) api.Merge {
	var lost, held [2][]string
	for v, x := range s.scans {
		for _, l := range x.Lost() {
			lost[v] = append(lost[v], l.Path)
		}
		held[v] = x.Held()
	}
	return recon.Merge(s.scans[api.A].Tree(), s.scans[api.B].Tree(), s.old, lost, held, r)
}

// archive tells the new one's tree.
func (s sights) archive(m api.Merge, hows []int) *tree.Tree {
	return outcome.Archive(s.scans[api.A].Tree(), s.scans[api.B].Tree(), s.old, m, hows)
}

// seen tells what a volume's scan told at a path and below it; nil: nothing.
func (s sights) seen(v int, p string) *tree.Tree {
	t, _ := s.scans[v].Tree().Sub(p)
	return t
}
