package list

import (
	"reclaim/api"
	"reclaim/arena"
	"reclaim/chain"
	"reclaim/hazard"
	"reclaim/machine"
	"reclaim/word"
)

// inserting is a call that puts a slot with a key and data into a list.
type inserting struct {
	visit
	data   int
	taking *arena.Taking
	mine   int // the slot that the call has taken
	giving *arena.Giving
}

// Inserting is a call that puts a slot into a list.
func Inserting(h *hazard.Hazards, thread int, root int, key int, data int) machine.Task {
	return &inserting{visit: visitOf(h, thread, root, key), data: data, mine: none}
}

// Step makes an access.
func (c *inserting) Step(d *machine.Desk) bool {
	if c.Ready(d) {
		return true
	}
	switch c.stage {
	case findKey:
		if c.Finding.Step(d) {
			c.found(d)
		}
	case takeSlot:
		c.taken(d, c.taking.Step(d))
	case storeValue:
		d.Store(c.valueAddr(c.mine), word.Number(c.key))
		c.stage = storeData
	case storeData:
		d.Store(c.dataAddr(c.mine), word.Number(c.data))
		c.stage = storeLink
	case storeLink:
		d.Store(c.linkAddr(c.mine), c.saw)
		c.stage = swapIn
	case swapIn:
		c.putIn(d)
	case giveSlot:
		c.given(d, c.giving.Step(d))
	case clearNames:
		c.left(d, c.leaving.Step(d))
	}
	return c.stage == over
}

// found goes on behind the part Find: the slot that the key needs is taken once in a call.
func (c *inserting) found(d *machine.Desk) {
	switch {
	case c.there:
		d.Point(c.point)
		c.giveUp(d)
	case c.mine == none:
		c.taking = c.on.Arena.Take(c.thread)
		c.stage = takeSlot
		c.taken(d, c.taking.Ready(d))
	default:
		c.stage = storeLink
	}
}

// taken goes on with the slot, if the part that takes it has ended. That there was none is told late:
// till then nobody is to take the call for one that does something.
func (c *inserting) taken(d *machine.Desk, ended bool) {
	if !ended {
		return
	}
	c.mine = c.taking.Slot()
	c.stage = storeValue
	if c.mine == none {
		c.late = d.Now()
		c.leave(d, api.AnswerFull)
	}
}

// putIn swaps the word ahead of the key's place, if that one is still as it was found.
func (c *inserting) putIn(d *machine.Desk) {
	if !d.Swap(c.at, c.saw, chain.Link(c.mine)) {
		c.anew(findKey)
		return
	}
	d.Point(d.Now())
	c.on.Arena.Shift(d, c.mine, api.StateLinked)
	c.leave(d, api.AnswerYes)
}

// giveUp gives the slot back, if one was taken: the key is there.
func (c *inserting) giveUp(d *machine.Desk) {
	if c.mine == none {
		c.leave(d, api.AnswerNo)
		return
	}
	c.giving = c.on.Arena.Give(c.thread, c.mine)
	c.stage = giveSlot
	c.given(d, c.giving.Ready(d))
}

func (c *inserting) given(d *machine.Desk, ended bool) {
	if ended {
		c.leave(d, api.AnswerNo)
	}
}
