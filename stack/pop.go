package stack

import (
	"reclaim/api"
	"reclaim/chain"
	"reclaim/course"
	"reclaim/hazard"
	"reclaim/machine"
	"reclaim/word"
)

// popping is a call that takes the top's slot out, and tells its value.
type popping struct {
	course.Course
	*pile
	thread   int
	hazard   int    // the address of hazard 0
	named    bool   // hazard 0 was stored in this call
	seen     uint64 // Top, as it was loaded last
	behind   uint64 // the link of its slot
	retiring *hazard.Retiring
}

func (p *pile) pop(thread int) *popping {
	c := &popping{pile: p, thread: thread, hazard: p.Hazards.Addr(thread, 0)}
	c.Next = c.loadTop
	return c
}

func (c *popping) loadTop(d *machine.Desk) {
	c.see(d, d.Load(c.topAddr()))
}

// see goes on with the slot that Top names. If it names none the stack is empty at this move; a
// hazard that names what was on top ahead of that is cleared, so that it keeps nothing back.
func (c *popping) see(d *machine.Desk, top uint64) {
	c.seen = top
	c.Next = c.nameTop
	if c.top() != chain.None {
		return
	}
	c.EndHere(d, api.AnswerEmpty)
	if c.named {
		c.Next = c.clearLast
	}
}

// top is the slot that was on top when Top was loaded last.
func (c *popping) top() int {
	return c.Slot(c.seen)
}

func (c *popping) nameTop(d *machine.Desk) {
	d.Store(c.hazard, c.seen)
	c.named = true
	c.Next = c.loadAgain
}

// loadAgain asks whether the slot was still on top when the hazard named it: only from then on it
// can't come back with another link.
func (c *popping) loadAgain(d *machine.Desk) {
	top := d.Load(c.topAddr())
	if top != c.seen {
		c.see(d, top)
		return
	}
	c.Next = c.loadLink
}

func (c *popping) loadLink(d *machine.Desk) {
	c.behind = d.Load(c.linkAddr(c.top()))
	c.Next = c.swapTop
}

func (c *popping) swapTop(d *machine.Desk) {
	if !d.Swap(c.topAddr(), c.seen, c.behind) {
		c.Next = c.loadTop
		return
	}
	d.Point(d.Now())
	c.Arena.Shift(d, c.top(), api.StateDetached)
	c.Next = c.loadValue
}

func (c *popping) loadValue(d *machine.Desk) {
	w := d.Load(c.valueAddr(c.top()))
	d.Answer(api.Answer{Kind: api.AnswerValue, Value: word.Value(w)})
	c.Next = c.clearHazard
}

// clearHazard comes ahead of the part that retires the slot, which would else be kept by its own
// thread's hazard.
func (c *popping) clearHazard(d *machine.Desk) {
	d.Store(c.hazard, chain.Link(chain.None))
	c.retiring = c.Hazards.Retire(c.thread, c.top())
	c.retired(c.retiring.Ready(d))
}

func (c *popping) retireOn(d *machine.Desk) {
	c.retired(c.retiring.Step(d))
}

// retired ends the call with the part that retires the slot.
func (c *popping) retired(ended bool) {
	c.Next = c.retireOn
	if ended {
		c.Next = nil
	}
}

func (c *popping) clearLast(d *machine.Desk) {
	d.Store(c.hazard, chain.Link(chain.None))
	c.Next = nil
}
