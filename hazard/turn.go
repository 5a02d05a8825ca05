package hazard

import (
	"reclaim/api"
	"reclaim/machine"
)

// place is where a part or a call is left, and taken up again: at a piece of local work, at a part
// of its own, or just ahead of an access.
type place int

const (
	over        place = iota // it has ended; a part that no hazards made has, too
	findRecord               // local: which record is the thread's
	loadActive               // whether a record is taken
	swapActive               // take it
	storeActive              // let it go
	loadHazard               // what a hazard names
	storeHazard              // let a hazard name a slot, or none
	givePending              // the arena's part Give, of each slot that no hazard names
	putRetired               // local: a slot goes into the retired list
	scanList                 // the part Scan
	flushCache               // the arena's part Flush
	takeSlot                 // the arena's part Take
	storeValue               // what is posted
	loadCell                 // which slot is published
	swapCell                 // publish another one
	retireOld                // the part Retire, of the one that was published ahead of it
	loadAgain                // whether the same slot is still published
	loadValue                // what it holds
)

// turn is one Ready or Step of a part or a call: the desk, and the accesses that may be made at it.
type turn struct {
	*machine.Desk
	left int
}

func readying(d *machine.Desk) *turn { return &turn{d, 0} }

func stepping(d *machine.Desk) *turn { return &turn{d, 1} }

// access tells whether one more access may be made in this turn, and counts it.
func (t *turn) access() bool {
	t.left--
	return t.left >= 0
}

// tellHere makes this move the call's point, and tells an answer that has no value.
func (t *turn) tellHere(kind api.AnswerKind) {
	t.Point(t.Now())
	t.Answer(api.Answer{Kind: kind})
}

// piece is a part within a part or a call.
type piece struct {
	machine.Task
	begun bool
	ended bool
}

func pieceOf(task machine.Task) piece { return piece{Task: task} }

// through lets a piece go on as far as the turn lets it, and tells whether it has ended. Its local
// work is done as soon as one comes to it, whether or not an access is left.
func (t *turn) through(p *piece) bool {
	if !p.begun {
		p.begun = true
		p.ended = p.Ready(t.Desk)
	}
	if !p.ended && t.access() {
		p.ended = p.Step(t.Desk)
	}
	return p.ended
}

// call is a call on its way: it is taken up in each turn where it was left.
type call struct {
	run func(now *turn) bool
}

func (c *call) Ready(d *machine.Desk) bool { return c.run(readying(d)) }

func (c *call) Step(d *machine.Desk) bool { return c.run(stepping(d)) }
