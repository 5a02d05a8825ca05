package table

import (
	"reclaim/api"
	"reclaim/chain"
	"reclaim/hazard"
	"reclaim/machine"
)

// removing is a call that takes a key out of its bucket, and tells its value.
type removing struct {
	visit
	value    api.Answer // what the slot's data was
	retiring *hazard.Retiring
}

// Step makes an access.
func (c *removing) Step(d *machine.Desk) bool {
	if c.Ready(d) {
		return true
	}
	switch c.stage {
	case findKey:
		found(d, c, c.Finding.Step(d))
	case markSlot:
		c.mark(d)
	case loadData:
		c.value = c.see(d)
		c.stage = swapOut
	case swapOut:
		c.takeOut(d)
	case retireSlot:
		c.gone(d, c.retiring.Step(d))
	case findOut:
		c.gone(d, c.Finding.Step(d))
	case clearNames:
		c.left(c.leaving.Step(d))
	}
	return c.stage == over
}

// present goes on with the mark. Its swap is the call's point, not what the part Find has seen.
func (c *removing) present(*machine.Desk, int) {
	c.stage = markSlot
}

// mark puts a mark into the slot's link, if that one is still as it was found: from here on the key is
// not there.
func (c *removing) mark(d *machine.Desk) {
	link := c.Next()
	if !d.Swap(c.on.Addr(api.RegionLink, c.slot()), link, chain.Mark(link, true)) {
		c.search(findKey)
		c.Ready(d)
		return
	}
	d.Point(d.Now())
	c.stage = loadData
}

// takeOut swaps the word ahead of the slot. Where that one has changed the part Find takes the slot out,
// or finds that another thread has done it.
func (c *removing) takeOut(d *machine.Desk) {
	at, saw := c.Before()
	if !d.Swap(at, saw, c.Next()) {
		c.search(findOut)
		c.gone(d, c.Finding.Ready(d))
		return
	}
	c.on.Arena.Shift(d, c.slot(), api.StateDetached)
	c.retiring = c.on.Hazards.Retire(c.thread, c.slot())
	c.stage = retireSlot
	c.gone(d, c.retiring.Ready(d))
}

// gone leaves, if the part has ended by which the slot is out of the bucket.
func (c *removing) gone(d *machine.Desk, ended bool) {
	if ended {
		c.leave(d, c.value)
	}
}
