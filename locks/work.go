package locks

import "reclaim/machine"

// work is what a call does: it goes on till it needs an access that the turn doesn't have, and tells whether
// it has ended.
type work interface {
	run(now *turn) bool
}

// turn is one Ready or Step of a call: the desk, and the accesses that may still be made at it.
type turn struct {
	*machine.Desk
	left int
}

// access tells whether one more access may be made in this turn, and counts it.
func (t *turn) access() bool {
	t.left--
	return t.left >= 0
}

// point makes this move the call's point.
func (t *turn) point() {
	t.Point(t.Now())
}

// place is where a work is left and taken up again: just ahead of an access. Each work has its own places,
// from 0 on, where it begins.
type place int

// pause is embedded in a work that is left at several places.
type pause struct {
	at place
}

// leave tells whether the work must be left here, since the turn has no access for it.
func (p *pause) leave(now *turn, here place) bool {
	p.at = here
	return !now.access()
}

// call is a call on its way.
type call struct {
	work
	end func() // what becomes of its thread when it has ended
}

// Ready goes on up to the first access.
func (c *call) Ready(d *machine.Desk) bool {
	return c.goOn(turn{Desk: d, left: 0})
}

// Step makes an access.
func (c *call) Step(d *machine.Desk) bool {
	return c.goOn(turn{Desk: d, left: 1})
}

func (c *call) goOn(now turn) bool {
	ended := c.run(&now)
	if ended {
		c.end()
	}
	return ended
}

// storing is a work of one access: all that most locks need to be given back.
type storing struct {
	addr int
	word uint64
}

func (s *storing) run(now *turn) bool {
	if !now.access() {
		return false
	}
	now.Store(s.addr, s.word)
	return true
}

// seizing gets a lock that is one word: 0, while nobody has it.
type seizing struct {
	addr  int
	taken uint64 // what the word is while a thread has it alone
}

func (s *seizing) run(now *turn) bool {
seize:
	if !now.access() {
		return false
	}
	if !now.Swap(s.addr, 0, s.taken) {
		goto seize
	}
	now.point()
	return true
}
