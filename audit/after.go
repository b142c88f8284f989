package audit

import (
	"twine/api"
	"twine/lift"
	"twine/outcome"
	"twine/plan"
	"twine/recon"
	"twine/rules"
	"twine/tree"
)

// noMarks is the version of an archive that knows all but marks.
const noMarks = 2

// quiet: what a run that nobody disturbs begins with: both replicas and the archive's tree.
type quiet struct {
	a, b replica
	o    *tree.Tree
}

// outlook tells where the run leads to.
func (x quiet) outlook(r *rules.Rules, most int) api.Outlook {
	a, b := x.a.tree, x.b.tree
	m := recon.Merge(a, b, x.o, [2][]string{}, [2][]string{x.a.held, x.b.held}, r)
	p := plan.Of(m, most)
	hows := outcome.Hows(m, p, allPut(p))
	o := lift.Project(outcome.Archive(a, b, x.o, m, hows), noMarks)
	sides := [2]*tree.Tree{a, b}
	for _, it := range p.Items {
		sides[it.To] = done(it, sides)
	}
	return api.Outlook{
		A: sides[api.A].Node(),
		B: sides[api.B].Node(),
		O: o.Node(),
		Report: api.Report{
			Over:    api.OverEnd,
			Saved:   api.SavedYes,
			Entries: outcome.Report(m, hows),
		},
	}
}

// allPut tells that each item of a plan was put.
func allPut(p api.Plan) []api.Done {
	l := make([]api.Done, len(p.Items))
	for i, it := range p.Items {
		l[i] = api.Done{Item: it.Number, How: api.HowPut}
	}
	return l
}

// done tells the side to which an item goes with the item done. Nothing of it is refused: the way to the place is made of directories on both sides, and where something is to go there is something.
func done(it api.Item, sides [2]*tree.Tree) *tree.Tree {
	t := sides[it.To]
	s, there := sides[it.From].Sub(it.Path)
	switch {
	case it.What == api.Both:
		t, _ = t.Set(it.Path, api.Value{Kind: api.Dir, Mode: it.Mode}, [2]api.Mark{})
	case there:
		t, _ = t.Put(it.Path, s)
	default:
		t, _ = t.Drop(it.Path)
	}
	return t
}
