package epoch

import (
	"reclaim/api"
	"reclaim/arena"
	"reclaim/chain"
	"reclaim/course"
	"reclaim/machine"
	"reclaim/word"
)

// stowing is a call that puts a slot with a value on top of the stack.
type stowing struct {
	course.Course
	*realm
	value  int
	taking *arena.Taking
	seen   uint64 // Top, as it was loaded
}

func (r *realm) stow(thread int, value int) *stowing {
	c := &stowing{realm: r, value: value, taking: r.arena.Take(thread)}
	c.Ahead, c.Next = c.beginTake, c.takeOn
	return c
}

func (c *stowing) beginTake(d *machine.Desk) {
	c.taken(d, c.taking.Ready(d))
}

func (c *stowing) takeOn(d *machine.Desk) {
	c.taken(d, c.taking.Step(d))
}

// taken goes on with the slot, if the part that takes it has ended.
func (c *stowing) taken(d *machine.Desk, ended bool) {
	switch {
	case !ended:
	case c.taking.Slot() == chain.None:
		c.EndHere(d, api.AnswerFull)
	default:
		c.Next = c.storeValue
	}
}

func (c *stowing) storeValue(d *machine.Desk) {
	d.Store(c.valueAddr(c.taking.Slot()), word.Number(c.value))
	c.Next = c.loadTop
}

func (c *stowing) loadTop(d *machine.Desk) {
	c.seen = d.Load(c.topAddr())
	c.Next = c.storeLink
}

func (c *stowing) storeLink(d *machine.Desk) {
	d.Store(c.linkAddr(c.taking.Slot()), c.seen)
	c.Next = c.swapTop
}

func (c *stowing) swapTop(d *machine.Desk) {
	if !d.Swap(c.topAddr(), c.seen, chain.Link(c.taking.Slot())) {
		c.Next = c.loadTop
		return
	}
	c.arena.Shift(d, c.taking.Slot(), api.StateLinked)
	c.EndHere(d, api.AnswerDone)
}
