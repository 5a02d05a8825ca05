package deque

import (
	"reclaim/api"
	"reclaim/course"
	"reclaim/machine"
)

// taking is a call that takes the last value out at the bottom.
type taking struct {
	course.Course
	*common
	last  int // the number of the last value, one below bottom as it was loaded
	top   int // as it was loaded
	value int
}

func (s *common) take() *taking {
	c := &taking{common: s}
	c.Next = c.loadBottom
	return c
}

func (c *taking) loadBottom(d *machine.Desk) {
	c.last = load(d, bottomAddr) - 1
	c.Next = c.lowerBottom
}

// lowerBottom keeps the value from all that look at bottom from now on. Who looked at it before may
// still steal the value, if it is the only one: so steals must know of this move.
func (c *taking) lowerBottom(d *machine.Desk) {
	store(d, bottomAddr, c.last)
	d.Point(d.Now())
	c.lowering = &lowering{move: d.Now(), number: c.last}
	c.Next = c.loadTop
}

func (c *taking) loadTop(d *machine.Desk) {
	c.top = load(d, topAddr)
	if c.last < c.top {
		c.tellEmpty(d)
		c.Next = c.restoreToTop
		return
	}
	c.Next = c.loadCell
}

func (c *taking) restoreToTop(d *machine.Desk) {
	store(d, bottomAddr, c.top)
	c.end()
}

func (c *taking) loadCell(d *machine.Desk) {
	c.value = load(d, cellOf(c.room, c.last))
	if c.top < c.last {
		d.Answer(valueAnswer(c.value))
		c.end()
		return
	}
	c.Next = c.swapTop
}

// swapTop settles who has the only value, the owner or a thief.
func (c *taking) swapTop(d *machine.Desk) {
	if raiseTop(d, c.top) {
		d.Answer(valueAnswer(c.value))
	} else {
		c.tellEmpty(d)
	}
	c.Next = c.restoreBehindTop
}

func (c *taking) restoreBehindTop(d *machine.Desk) {
	store(d, bottomAddr, c.top+1)
	c.end()
}

// tellEmpty makes this move, which has seen that the value is gone, the point.
func (c *taking) tellEmpty(d *machine.Desk) {
	d.Point(d.Now())
	d.Answer(api.Answer{Kind: api.AnswerEmpty})
}

func (c *taking) end() {
	c.lowering = nil
	c.Next = nil
}
