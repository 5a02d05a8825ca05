package split

import (
	"reclaim/api"
	"reclaim/chain"
	"reclaim/machine"
)

// removing is a call that takes a key out of the table, and tells its value.
type removing struct {
	visit
	value api.Answer // what the slot's data was
}

func (g *ground) remove(thread int, key int) *removing {
	c := &removing{visit: g.visit(thread, key)}
	c.Next = c.begin
	return c
}

func (c *removing) begin(d *machine.Desk) {
	c.enter(d, c.findKey)
}

func (c *removing) findKey(d *machine.Desk) {
	c.find(d, c.keyPlace(), c.keyFound)
}

func (c *removing) keyFound(d *machine.Desk) {
	there, _, point := c.finding.Found()
	c.Next = c.mark
	if !there {
		d.Point(point)
		c.leave(d, only(api.AnswerNo))
	}
}

// mark puts a mark into the slot's link, if that one is still as it was found: from here on the key is not
// there.
func (c *removing) mark(d *machine.Desk) {
	link := c.finding.Next()
	if !d.Swap(c.linkAddr(c.slot()), link, chain.Mark(link, true)) {
		c.findKey(d)
		return
	}
	d.Point(d.Now())
	c.Next = c.loadData
}

func (c *removing) loadData(d *machine.Desk) {
	c.value = c.see(d)
	c.Next = c.takeOut
}

// takeOut swaps the word ahead of the slot. Where that one has changed the part Find takes the slot out, or
// finds that another thread has done it.
func (c *removing) takeOut(d *machine.Desk) {
	at, saw := c.finding.Before()
	if !d.Swap(at, saw, c.finding.Next()) {
		c.find(d, c.keyPlace(), c.gone)
		return
	}
	c.Arena.Shift(d, c.slot(), api.StateDetached)
	c.Through(d, c.Hazards.Retire(c.thread, c.slot()), c.gone)
}

// gone goes on when the slot is out of the list.
func (c *removing) gone(d *machine.Desk) {
	c.Through(d, c.counted(-1), c.sayValue)
}

func (c *removing) sayValue(d *machine.Desk) {
	c.leave(d, c.value)
}
