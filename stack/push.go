package stack

import (
	"reclaim/api"
	"reclaim/arena"
	"reclaim/base"
	"reclaim/chain"
	"reclaim/machine"
	"reclaim/word"
)

// pushing is a call that puts a slot with a value on top.
type pushing struct {
	course
	*pile
	value  int
	taking *arena.Taking
	seen   uint64 // Top, as it was loaded
}

func (p *pile) push(thread int, value int) *pushing {
	c := &pushing{pile: p, value: value, taking: p.Arena.Take(thread)}
	c.ahead, c.next = c.beginTake, c.takeOn
	return c
}

func (c *pushing) beginTake(d *machine.Desk) {
	c.taken(d, c.taking.Ready(d))
}

func (c *pushing) takeOn(d *machine.Desk) {
	c.taken(d, c.taking.Step(d))
}

// taken goes on with the slot, if the part that takes it has ended.
func (c *pushing) taken(d *machine.Desk, ended bool) {
	switch {
	case !ended:
	case c.taking.Slot() == chain.None:
		base.TellHere(d, api.AnswerFull)
		c.next = nil
	default:
		c.next = c.storeValue
	}
}

func (c *pushing) storeValue(d *machine.Desk) {
	d.Store(c.valueAddr(c.taking.Slot()), word.Number(c.value))
	c.next = c.loadTop
}

func (c *pushing) loadTop(d *machine.Desk) {
	c.seen = d.Load(c.topAddr())
	c.next = c.storeLink
}

func (c *pushing) storeLink(d *machine.Desk) {
	d.Store(c.linkAddr(c.taking.Slot()), c.seen)
	c.next = c.swapTop
}

func (c *pushing) swapTop(d *machine.Desk) {
	if !d.Swap(c.topAddr(), c.seen, chain.Link(c.taking.Slot())) {
		c.next = c.loadTop
		return
	}
	base.TellHere(d, api.AnswerDone)
	c.Arena.Shift(d, c.taking.Slot(), api.StateLinked)
	c.next = nil
}
