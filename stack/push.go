package stack

import (
	"reclaim/api"
	"reclaim/arena"
	"reclaim/chain"
	"reclaim/course"
	"reclaim/machine"
	"reclaim/word"
)

// pushing is a call that puts a slot with a value on top.
type pushing struct {
	course.Course
	*pile
	value  int
	taking *arena.Taking
	seen   uint64 // Top, as it was loaded
}

func (p *pile) push(thread int, value int) *pushing {
	c := &pushing{pile: p, value: value, taking: p.Arena.Take(thread)}
	c.Ahead, c.Next = c.beginTake, c.takeOn
	return c
}

func (c *pushing) beginTake(d *machine.Desk) {
	c.taken(d, c.taking.Ready(d))
}

func (c *pushing) takeOn(d *machine.Desk) {
	c.taken(d, c.taking.Step(d))
}

// taken goes on with the slot, if the part that takes it has ended.
func (c *pushing) taken(d *machine.Desk, ended bool) {
	switch {
	case !ended:
	case c.taking.Slot() == chain.None:
		c.EndHere(d, api.AnswerFull)
	default:
		c.Next = c.storeValue
	}
}

func (c *pushing) storeValue(d *machine.Desk) {
	d.Store(c.valueAddr(c.taking.Slot()), word.Number(c.value))
	c.Next = c.loadTop
}

func (c *pushing) loadTop(d *machine.Desk) {
	c.seen = d.Load(c.topAddr())
	c.Next = c.storeLink
}

func (c *pushing) storeLink(d *machine.Desk) {
	d.Store(c.linkAddr(c.taking.Slot()), c.seen)
	c.Next = c.swapTop
}

func (c *pushing) swapTop(d *machine.Desk) {
	if !d.Swap(c.topAddr(), c.seen, chain.Link(c.taking.Slot())) {
		c.Next = c.loadTop
		return
	}
	c.Arena.Shift(d, c.taking.Slot(), api.StateLinked)
	c.EndHere(d, api.AnswerDone)
}
