package split

import (
	"reclaim/api"
	"reclaim/machine"
)

// getting is a call that tells a key's value.
type getting struct {
	visit
}

func (g *ground) get(thread int, key int) *getting {
	c := &getting{g.visit(thread, key)}
	c.Next = c.begin
	return c
}

func (c *getting) begin(d *machine.Desk) {
	c.enter(d, c.findKey)
}

func (c *getting) findKey(d *machine.Desk) {
	c.find(d, c.keyPlace(), c.keyFound)
}

// keyFound goes on with the key's value. It is the one that the key had at the point: it changes no more
// while the slot is named.
func (c *getting) keyFound(d *machine.Desk) {
	there, _, point := c.finding.Found()
	d.Point(point)
	c.Next = c.loadData
	if !there {
		c.leave(d, only(api.AnswerNo))
	}
}

func (c *getting) loadData(d *machine.Desk) {
	c.leave(d, c.see(d))
}
