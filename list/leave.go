package list

import (
	"reclaim/chain"
	"reclaim/hazard"
	"reclaim/machine"
)

// Leaving is the part that clears the three hazards.
type Leaving struct {
	line
	left int // the hazards that are still to be cleared
}

// Leave makes one.
func Leave(h *hazard.Hazards, thread int) *Leaving {
	return &Leaving{lineOf(h, thread), hazards}
}

// Ready has nothing to do ahead of an access, but to ask whether there can be one.
func (l *Leaving) Ready(*machine.Desk) bool {
	if l == nil {
		return true
	}
	if !l.holds() {
		l.left = 0
	}
	return l.left == 0
}

// Step makes an access.
func (l *Leaving) Step(d *machine.Desk) bool {
	if l.Ready(d) {
		return true
	}
	d.Store(l.hazardAddr(hazards-l.left), chain.Link(none))
	l.left--
	return l.left == 0
}
