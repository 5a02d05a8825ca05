package deque

import (
	"reclaim/api"
	"reclaim/course"
	"reclaim/machine"
)

// stealing is a call that takes the first value out at the top.
type stealing struct {
	course.Course
	*common
	top   int // as it was loaded last
	value int
}

func (s *common) steal() *stealing {
	c := &stealing{common: s}
	c.Next = c.loadTop
	return c
}

func (c *stealing) loadTop(d *machine.Desk) {
	c.top = load(d, topAddr)
	c.Next = c.loadBottom
}

func (c *stealing) loadBottom(d *machine.Desk) {
	if load(d, bottomAddr)-c.top <= 0 {
		c.EndHere(d, api.AnswerEmpty)
		return
	}
	c.Next = c.loadCell
}

func (c *stealing) loadCell(d *machine.Desk) {
	c.value = load(d, cellOf(c.room, c.top))
	c.Next = c.swapTop
}

func (c *stealing) swapTop(d *machine.Desk) {
	if !raiseTop(d, c.top) {
		c.Next = c.loadTop
		return
	}
	d.Point(c.pointAt(d.Now()))
	d.Answer(valueAnswer(c.value))
	c.Next = nil
}

// pointAt is the point of a steal whose swap succeeds now. If the owner's take has put bottom down to this
// very value, the value was out from that move on: others may have seen that there is none. (Top was this
// value's number at that move: this steal loaded bottom ahead of it, and top ahead of that.)
func (c *stealing) pointAt(now int) int {
	if c.lowering != nil && c.lowering.number == c.top {
		return c.lowering.move
	}
	return now
}
