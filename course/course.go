// Package course has how a call goes on that keeps what it does next as a method of its own.
package course

import (
	"reclaim/api"
	"reclaim/machine"
)

// Course is embedded in a call. Next is the method of the call that makes its next access, with the
// local work behind it, and puts there the one that comes after it; nil: the call has ended.
type Course struct {
	Ahead func(d *machine.Desk) // the local work ahead of the first access; nil: there is none left
	Next  func(d *machine.Desk)
}

// Ready does the local work ahead of the first access.
func (c *Course) Ready(d *machine.Desk) bool {
	if c.Ahead != nil {
		c.Ahead(d)
		c.Ahead = nil
	}
	return c.Next == nil
}

// Step makes an access.
func (c *Course) Step(d *machine.Desk) bool {
	if c.Next != nil {
		c.Next(d)
	}
	return c.Next == nil
}

// Through goes on with a part, and behind its end, which may be here already, with what comes then.
func (c *Course) Through(d *machine.Desk, part machine.Task, then func(d *machine.Desk)) {
	if part.Ready(d) {
		then(d)
		return
	}
	c.Next = func(d *machine.Desk) {
		if part.Step(d) {
			then(d)
		}
	}
}

// EndHere ends the call with an answer that has no value; its point is this move.
func (c *Course) EndHere(d *machine.Desk, kind api.AnswerKind) {
	d.Point(d.Now())
	d.Answer(api.Answer{Kind: kind})
	c.Next = nil
}
