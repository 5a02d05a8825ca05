package queue

import (
	"reclaim/api"
	"reclaim/base"
	"reclaim/chain"
	"reclaim/hazard"
	"reclaim/machine"
	"reclaim/word"
)

// dequeueing is a call that takes the dummy out, lets the slot behind it be the dummy, and tells that
// one's value.
type dequeueing struct {
	*row
	names
	next     place
	thread   int
	head     uint64 // Head, as it was loaded last
	tail     uint64 // Tail, as it was loaded last
	behind   uint64 // the link of Head's slot
	value    uint64 // the value of the slot behind it
	took     bool   // Head was swapped
	retiring *hazard.Retiring
}

func (r *row) dequeue(thread int) *dequeueing {
	return &dequeueing{
		row:    r,
		names:  names{r.Hazards.Addr(thread, 0), r.Hazards.Addr(thread, 1)},
		next:   loadHead,
		thread: thread,
	}
}

// Ready has nothing to do ahead of the first access.
func (c *dequeueing) Ready(*machine.Desk) bool {
	return c.next == over
}

// Step makes an access.
func (c *dequeueing) Step(d *machine.Desk) bool {
	switch c.next {
	case loadHead:
		c.head = d.Load(c.headAddr())
		c.next = nameHead
	case nameHead:
		d.Store(c.names[0], c.head)
		c.next = headAgain
	case headAgain:
		c.seeHead(d.Load(c.headAddr()), loadTail)
	case loadTail:
		c.seeTail(d, d.Load(c.tailAddr()))
	case loadLink:
		c.seeLink(d, d.Load(c.linkAddr(c.Slot(c.head))))
	case nameNext:
		d.Store(c.names[1], c.behind)
		c.next = headStill
	case headStill:
		c.seeHead(d.Load(c.headAddr()), c.withBoth())
	case helpTail:
		d.Swap(c.tailAddr(), c.tail, c.behind)
		c.next = loadHead
	case loadValue:
		c.value = d.Load(c.valueAddr(c.Slot(c.behind)))
		c.next = swapHead
	case swapHead:
		c.takeOut(d)
	case clearNames:
		if c.clear(d) {
			c.retire(d)
		}
	case retireHead:
		c.retired(c.retiring.Step(d))
	}
	return c.next == over
}

// seeHead goes on at a place, if Head still names the slot that hazard 0 does: only then that one was
// the dummy when it was named, and can't come back with another link. Else the new one is named.
func (c *dequeueing) seeHead(head uint64, next place) {
	c.next = next
	if head != c.head {
		c.head = head
		c.next = nameHead
	}
}

// seeTail goes on with the link of Head's slot; a Head that names no slot has none behind it.
func (c *dequeueing) seeTail(d *machine.Desk, tail uint64) {
	c.tail = tail
	c.next = loadLink
	if c.Slot(c.head) == chain.None {
		c.foundEmpty(d)
	}
}

func (c *dequeueing) seeLink(d *machine.Desk, link uint64) {
	c.behind = link
	c.next = nameNext
	if c.Slot(link) == chain.None {
		c.foundEmpty(d)
	}
}

func (c *dequeueing) foundEmpty(d *machine.Desk) {
	base.TellHere(d, api.AnswerEmpty)
	c.next = clearNames
}

// withBoth is where the call goes on when both slots are named. Tail is helped on ahead of Head, so
// that it never names a slot that was taken out.
func (c *dequeueing) withBoth() place {
	if c.tail == c.head {
		return helpTail
	}
	return loadValue
}

func (c *dequeueing) takeOut(d *machine.Desk) {
	c.took = d.Swap(c.headAddr(), c.head, c.behind)
	if !c.took {
		c.next = loadHead
		return
	}
	d.Point(d.Now())
	d.Answer(api.Answer{Kind: api.AnswerValue, Value: word.Value(c.value)})
	c.Arena.Shift(d, c.Slot(c.head), api.StateDetached)
	c.next = clearNames
}

// retire comes behind the clearing of the hazards, of which one names the slot itself.
func (c *dequeueing) retire(d *machine.Desk) {
	c.next = over
	if c.took {
		c.retiring = c.Hazards.Retire(c.thread, c.Slot(c.head))
		c.retired(c.retiring.Ready(d))
	}
}

// retired ends the call with the part that retires the slot.
func (c *dequeueing) retired(ended bool) {
	c.next = retireHead
	if ended {
		c.next = over
	}
}
