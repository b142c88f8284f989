package run

import (
	"twine/api"
	"twine/apply"
)

// work: a plan's items on their way.
type work struct {
	todo    []api.Item   // those that aren't begun
	item    api.Item     // the one that is
	machine *apply.Apply // its; nil: none is under way
}

// doItem does a step of the item under way, or of the next one.
func (c *course) doItem() api.Reply {
	if c.machine == nil {
		if len(c.todo) == 0 {
			return api.Reply{}
		}
		c.beginItem()
	}
	did, e := c.machine.Step()
	switch did {
	case api.DidPut, api.DidOvertaken, api.DidFailed:
		c.note(c.machine.Done())
	}
	c.dropEnded()
	return api.Reply{Did: did, Err: e, Item: c.item.Number, Path: c.item.Path}
}

func (c *course) beginItem() {
	c.item, c.todo = c.todo[0], c.todo[1:]
	c.machine = apply.New(c.world, c.item, c.seen(c.item.From, c.item.Path), c.seen(c.item.To, c.item.Path))
}

// note keeps how the item ended, and the files that it put, since these are to be made sure.
func (c *course) note(d api.Done) {
	c.hows[c.item.Cell] = d.How
	for _, x := range d.Put {
		c.unsure = append(c.unsure, file{volume: c.item.To, number: x.Number, stamp: x.Stamp, cell: c.item.Cell})
	}
}

// leave leaves out what isn't put; an item that is put goes on to its end.
func (k *work) leave() {
	k.todo = nil
	if k.machine != nil {
		k.machine.Leave()
		k.dropEnded()
	}
}

// dropEnded has no item under way, if the one that was has ended.
func (k *work) dropEnded() {
	if k.machine.Phase() == api.DidNothing {
		k.machine = nil
	}
}

// underWay tells the number of the item under way, 0 if none is.
func (k *work) underWay() int {
	if k.machine == nil {
		return 0
	}
	return k.item.Number
}
