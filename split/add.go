package split

import (
	"reclaim/api"
	"reclaim/machine"
	"reclaim/word"
)

// adding is a call that puts a key into the table.
type adding struct {
	visit
	data int
}

func (g *ground) add(thread int, key int, data int) *adding {
	c := &adding{visit: g.visit(thread, key), data: data}
	c.Next = c.begin
	return c
}

func (c *adding) begin(d *machine.Desk) {
	c.enter(d, c.putKey)
}

func (c *adding) putKey(d *machine.Desk) {
	c.plant(d, c.keyPlace(), c.storeData, c.keyPlanted)
}

func (c *adding) storeData(d *machine.Desk) {
	d.Store(c.dataAddr(c.mine), word.Number(c.data))
	c.Next = c.storeLink
}

// keyPlanted goes on with what has come of it. That there was no slot is told late: till then nobody is to
// take the call for one that does something.
func (c *adding) keyPlanted(d *machine.Desk) {
	there, _, point := c.finding.Found()
	switch {
	case there:
		d.Point(point)
		c.giveBack(d, c.sayNo)
	case c.mine == none:
		c.late = d.Now()
		c.leave(d, only(api.AnswerFull))
	default:
		d.Point(d.Now())
		c.Through(d, c.counted(1), c.sayYes)
	}
}

func (c *adding) sayNo(d *machine.Desk) {
	c.leave(d, only(api.AnswerNo))
}

func (c *adding) sayYes(d *machine.Desk) {
	c.leave(d, only(api.AnswerYes))
}
