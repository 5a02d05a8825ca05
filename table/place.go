package table

// place is where a call goes on: at a part of its own, or just ahead of an access.
type place int

const (
	over       place = iota // it has ended
	findKey                 // the list's part Find
	markSlot                // put a mark into the slot's link
	loadData                // see the key's value
	swapOut                 // swap the word ahead of the marked slot
	retireSlot              // hazard's part Retire, of the slot that is out
	findOut                 // the part Find, by which the marked slot is taken out
	clearNames              // the list's part Leave
)
