package queue

import (
	"reclaim/chain"
	"reclaim/machine"
)

// place is where a call goes on: at a part of its own, or just ahead of an access.
type place int

const (
	over       place = iota // the call has ended
	takeSlot                // the arena's part Take
	storeValue              // what is put in
	storeLink               // nothing is behind the slot yet
	loadTail                // which slot may be the last one
	nameTail                // by hazard 0
	tailAgain               // whether Tail still names the slot that the hazard does
	loadLink                // what is behind Tail's slot, or Head's
	swapLink                // put the slot behind the last one
	swapTail                // let Tail name it
	helpTail                // let Tail name the slot that another call has put in
	loadHead                // which slot is the dummy
	nameHead                // by hazard 0
	headAgain               // whether Head still names the slot that the hazard does
	nameNext                // by hazard 1, the slot behind the dummy
	headStill               // whether Head still names the dummy, now that both are named
	loadValue               // what is taken out
	swapHead                // let the slot behind the dummy be the dummy
	clearNames              // of all hazards that the call uses
	retireHead              // hazard's part Retire, of the slot that was the dummy
)

// names are the addresses of the hazards that a call uses, chain.None for one that it doesn't use
// or has cleared.
type names [2]int

// clear lets the first of them that is left name nothing, and tells whether it was the last one:
// the loop goes on in the next step.
func (n *names) clear(d *machine.Desk) bool {
	for k, addr := range n {
		if addr != chain.None {
			d.Store(addr, chain.Link(chain.None))
			n[k] = chain.None
			break
		}
	}
	return *n == names{chain.None, chain.None}
}
