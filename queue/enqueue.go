package queue

import (
	"reclaim/api"
	"reclaim/arena"
	"reclaim/base"
	"reclaim/chain"
	"reclaim/machine"
	"reclaim/word"
)

// enqueueing is a call that puts a slot with a value behind the last one.
type enqueueing struct {
	*row
	names
	next   place
	value  int
	taking *arena.Taking
	tail   uint64 // Tail, as it was loaded last
	behind uint64 // the link of its slot
}

func (r *row) enqueue(thread int, value int) *enqueueing {
	return &enqueueing{
		row:    r,
		names:  names{r.Hazards.Addr(thread, 0), chain.None},
		next:   takeSlot,
		value:  value,
		taking: r.Arena.Take(thread),
	}
}

// Ready takes a slot out of the cache, if there is one.
func (c *enqueueing) Ready(d *machine.Desk) bool {
	if c.next == takeSlot {
		c.taken(d, c.taking.Ready(d))
	}
	return c.next == over
}

// Step makes an access.
func (c *enqueueing) Step(d *machine.Desk) bool {
	switch c.next {
	case takeSlot:
		c.taken(d, c.taking.Step(d))
	case storeValue:
		d.Store(c.valueAddr(c.taking.Slot()), word.Number(c.value))
		c.next = storeLink
	case storeLink:
		d.Store(c.linkAddr(c.taking.Slot()), chain.Link(chain.None))
		c.next = loadTail
	case loadTail:
		c.tail = d.Load(c.tailAddr())
		c.next = nameTail
	case nameTail:
		d.Store(c.names[0], c.tail)
		c.next = tailAgain
	case tailAgain:
		c.seeTail(d.Load(c.tailAddr()))
	case loadLink:
		c.seeLink(d.Load(c.linkAddr(c.Slot(c.tail))))
	case swapLink:
		c.putIn(d)
	case swapTail:
		// It fails where another call has found Tail behind, and has helped it on.
		d.Swap(c.tailAddr(), c.tail, chain.Link(c.taking.Slot()))
		c.next = clearNames
	case helpTail:
		d.Swap(c.tailAddr(), c.tail, c.behind)
		c.next = loadTail
	case clearNames:
		if c.clear(d) {
			c.next = over
		}
	}
	return c.next == over
}

// taken goes on with the slot, if the part that takes it has ended.
func (c *enqueueing) taken(d *machine.Desk, ended bool) {
	switch {
	case !ended:
	case c.taking.Slot() == chain.None:
		base.TellHere(d, api.AnswerFull)
		c.next = over
	default:
		c.next = storeValue
	}
}

// seeTail asks whether Tail still named the slot when the hazard did: only from then on it can't come
// back with another link. A Tail that names no slot has no link to be looked at; it is asked again.
func (c *enqueueing) seeTail(tail uint64) {
	named := c.tail
	c.tail = tail
	c.next = nameTail
	if tail == named && c.Slot(tail) != chain.None {
		c.next = loadLink
	}
}

func (c *enqueueing) seeLink(link uint64) {
	c.behind = link
	c.next = swapLink
	if c.Slot(link) != chain.None {
		c.next = helpTail
	}
}

// putIn swaps the link of the last slot, if no other call has put one behind it meanwhile.
func (c *enqueueing) putIn(d *machine.Desk) {
	if !d.Swap(c.linkAddr(c.Slot(c.tail)), c.behind, chain.Link(c.taking.Slot())) {
		c.next = loadTail
		return
	}
	base.TellHere(d, api.AnswerDone)
	c.Arena.Shift(d, c.taking.Slot(), api.StateLinked)
	c.next = swapTail
}
