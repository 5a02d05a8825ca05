package list

import (
	"reclaim/api"
	"reclaim/chain"
	"reclaim/hazard"
	"reclaim/machine"
)

// deleting is a call that takes a key's slot out of a list.
type deleting struct {
	visit
	retire *hazard.Retiring
}

// Step makes an access.
func (c *deleting) Step(d *machine.Desk) bool {
	if c.Ready(d) {
		return true
	}
	switch c.stage {
	case findKey:
		if c.Finding.Step(d) {
			c.found(d)
		}
	case markSlot:
		c.mark(d)
	case swapOut:
		c.takeOut(d)
	case retireSlot:
		c.gone(d, c.retire.Step(d))
	case findOut:
		c.gone(d, c.Finding.Step(d))
	case clearNames:
		c.left(d, c.leaving.Step(d))
	}
	return c.stage == over
}

func (c *deleting) found(d *machine.Desk) {
	c.stage = markSlot
	if !c.there {
		d.Point(c.point)
		c.leave(d, api.AnswerNo)
	}
}

// mark puts a mark into the slot's link, if that one is still as it was found: from here on the key is
// not there.
func (c *deleting) mark(d *machine.Desk) {
	if !d.Swap(c.linkAddr(c.cur), c.link, chain.Mark(c.link, true)) {
		c.anew(findKey)
		return
	}
	d.Point(d.Now())
	c.stage = swapOut
}

// takeOut swaps the word ahead of the slot. Where that one has changed the part Find does it, or finds
// that another thread has done it.
func (c *deleting) takeOut(d *machine.Desk) {
	if !d.Swap(c.at, c.saw, c.link) {
		c.anew(findOut)
		return
	}
	c.retire = c.detach(d, c.cur)
	c.stage = retireSlot
	c.gone(d, c.retire.Ready(d))
}

// gone leaves, if the part has ended by which the slot is out of the list.
func (c *deleting) gone(d *machine.Desk, ended bool) {
	if ended {
		c.leave(d, api.AnswerYes)
	}
}
