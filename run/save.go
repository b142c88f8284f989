package run

import (
	"twine/api"
	"twine/codec"
	"twine/store"
)

// version is the form in which archives are saved.
const version = 3

// encode makes ready what is saved; it takes no step. The plan left out so much that the archive is in bounds; should it be refused all the same, the old one stays.
func (c *course) encode() api.Reply {
	b, e := codec.Encode(c.archive(c.merge, c.hows), version, c.most)
	if e != api.OK {
		return bad(e)
	}
	c.saver = store.Save(c.world, b)
	c.sights = sights{} // no later step looks at them
	return api.Reply{}
}

func (c *course) save() api.Reply {
	if c.report.Saved == api.SavedYes {
		return api.Reply{}
	}
	_, e := c.saver.Step()
	c.report.Saved = c.saver.Where()
	if e != api.OK {
		return fault(e)
	}
	return api.Reply{Did: api.DidSave}
}

func (c *course) finish() api.Reply { return api.Reply{Did: api.DidEnd} }
