package epoch

import (
	"reclaim/api"
	"reclaim/chain"
	"reclaim/course"
	"reclaim/machine"
	"reclaim/word"
)

// drawing is a call that takes the slot on top of the stack out, and tells its value. Nothing names
// the slot meanwhile: that its thread is pinned keeps it from coming back under another value.
type drawing struct {
	course.Course
	*realm
	thread int
	seen   uint64 // Top, as it was loaded last
	behind uint64 // the link of its slot
	parts  []part // those that are still to be made, the one on its way ahead
}

func (r *realm) draw(thread int) *drawing {
	c := &drawing{realm: r, thread: thread}
	c.Next = c.loadTop
	return c
}

func (c *drawing) loadTop(d *machine.Desk) {
	c.seen = d.Load(c.topAddr())
	if c.top() == chain.None {
		c.EndHere(d, api.AnswerEmpty)
		return
	}
	c.Next = c.loadLink
}

// top is the slot that was on top when Top was loaded last.
func (c *drawing) top() int {
	return chain.Slot(c.arena.Config(), c.seen)
}

func (c *drawing) loadLink(d *machine.Desk) {
	c.behind = d.Load(c.linkAddr(c.top()))
	c.Next = c.swapTop
}

func (c *drawing) swapTop(d *machine.Desk) {
	if !d.Swap(c.topAddr(), c.seen, c.behind) {
		c.Next = c.loadTop
		return
	}
	d.Point(d.Now())
	c.arena.Shift(d, c.top(), api.StateDetached)
	c.Next = c.loadValue
}

func (c *drawing) loadValue(d *machine.Desk) {
	w := d.Load(c.valueAddr(c.top()))
	d.Answer(api.Answer{Kind: api.AnswerValue, Value: word.Value(w)})
	c.Next = c.retire
}

// retire puts the slot into the bag. A full bag is the time to move the epoch on, and to give back
// what is due, whether it has moved or not.
func (c *drawing) retire(d *machine.Desk) {
	epoch := c.loadEpoch(d)
	c.arena.Shift(d, c.top(), api.StateRetired)
	b := append(c.bags[c.thread], retired{slot: c.top(), epoch: epoch})
	c.bags[c.thread] = b
	if len(b) >= c.arena.Config().Retire {
		c.parts = []part{c.advance(), c.collect(c.thread)}
	}
	c.beginPart(d)
}

func (c *drawing) partOn(d *machine.Desk) {
	if c.parts[0].Step(d) {
		c.parts = c.parts[1:]
		c.beginPart(d)
	}
}

// beginPart goes on with the next part; without one the call has ended.
func (c *drawing) beginPart(d *machine.Desk) {
	c.Next = c.partOn
	for len(c.parts) > 0 && c.parts[0].Ready(d) {
		c.parts = c.parts[1:]
	}
	if len(c.parts) == 0 {
		c.Next = nil
	}
}
