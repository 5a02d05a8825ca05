package ring

import (
	"reclaim/api"
	"reclaim/machine"
	"reclaim/word"
)

// passing is a call, a put or a pick: it gets a ticket when the turn of the ticket's cell has come, uses
// the cell, and hands it on.
type passing struct {
	gate
	cells  int
	next   place
	ticket uint64 // the one that was the next when the counter was loaded last; the call's own from its swap on
	value  int    // what a put puts
}

// Ready has nothing to do ahead of the first access.
func (c *passing) Ready(*machine.Desk) bool {
	return c.next == over
}

// Step makes an access.
func (c *passing) Step(d *machine.Desk) bool {
	switch c.next {
	case loadCounter:
		c.ticket = d.Load(c.counter)
		c.next = loadTurn
	case loadTurn:
		c.seeTurn(d, d.Load(turnAddr(c.cell())))
	case swapCounter:
		c.getTicket(d)
	case storeValue:
		d.Store(valueAddr(c.cell()), word.Number(c.value))
		d.Answer(api.Answer{Kind: api.AnswerDone})
		c.next = storeTurn
	case loadValue:
		v := word.Value(d.Load(valueAddr(c.cell())))
		d.Answer(api.Answer{Kind: api.AnswerValue, Value: v})
		c.next = storeTurn
	case storeTurn:
		d.Store(turnAddr(c.cell()), c.ticket+c.leaves)
		c.next = over
	}
	return c.next == over
}

// cell is the ticket's. Tickets go on round the ring.
func (c *passing) cell() int {
	return int(c.ticket % uint64(c.cells))
}

// seeTurn goes on by what the turn says: this ticket may be got; another call of the op has got it already;
// or whoever has the cell is not through with it, which the call doesn't wait for.
func (c *passing) seeTurn(d *machine.Desk, turn uint64) {
	awaited := c.ticket + c.opens
	switch {
	case turn == awaited:
		c.next = swapCounter
	case turn > awaited:
		c.next = loadCounter
	default:
		d.Point(d.Now())
		d.Answer(api.Answer{Kind: c.refusal})
		c.next = over
	}
}

// getTicket swaps the counter. Of all calls that try it for one ticket just one succeeds, since the counter
// never comes back to a number.
func (c *passing) getTicket(d *machine.Desk) {
	c.next = loadCounter
	if d.Swap(c.counter, c.ticket, c.ticket+1) {
		d.Point(d.Now())
		c.next = c.use
	}
}
