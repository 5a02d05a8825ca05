package list

// place is where a part or a call goes on: at a part of its own, or just ahead of an access.
type place int

const (
	over place = iota // it has ended; a part that no call of the face made has, too

	// The part Find.
	begin      // whether the thread may go along the list at all
	loadRoot   // F1
	nameFirst  // F2
	wordStill  // F3
	loadLink   // F4
	nameBehind // F5
	linkStill  // F6
	loadValue  // F7
	judgeSlot  // F8
	nameAhead  // F9
	nameNext   // F10, F12
	unlinkSlot // F11
	retireSlot // hazard's part Retire, of the slot that F11 or D2 has taken out

	// The calls.
	findKey    // the part Find
	takeSlot   // the arena's part Take
	storeValue // I1
	storeData  // I2
	storeLink  // I3
	swapIn     // I4
	giveSlot   // the arena's part Give, of a slot that is not needed
	markSlot   // D1
	swapOut    // D2
	findOut    // the part Find, by which the slot that is marked is taken out
	clearNames // the part Leave
)
