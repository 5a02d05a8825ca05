package deque

import (
	"reclaim/api"
	"reclaim/course"
	"reclaim/machine"
)

// pushing is a call that puts a value in at the bottom.
type pushing struct {
	course.Course
	*common
	value  int
	bottom int // as it was loaded; none but the owner stores it
}

func (s *common) push(value int) *pushing {
	c := &pushing{common: s, value: value}
	c.Next = c.loadBottom
	return c
}

func (c *pushing) loadBottom(d *machine.Desk) {
	c.bottom = load(d, bottomAddr)
	c.Next = c.loadTop
}

func (c *pushing) loadTop(d *machine.Desk) {
	if c.bottom-load(d, topAddr) >= c.room {
		c.EndHere(d, api.AnswerFull)
		return
	}
	c.Next = c.storeCell
}

func (c *pushing) storeCell(d *machine.Desk) {
	store(d, cellOf(c.room, c.bottom), c.value)
	c.Next = c.raiseBottom
}

// raiseBottom is what lets others see the value, whose cell holds it by now.
func (c *pushing) raiseBottom(d *machine.Desk) {
	store(d, bottomAddr, c.bottom+1)
	c.EndHere(d, api.AnswerDone)
}
