package arena

import "reclaim/machine"

// place is where the loop of a part is left, and taken up again: at a piece of local work, or just
// ahead of an access.
type place int

const (
	over       place = iota // the part has ended; one that no arena made has, too
	takeCached              // local: a slot may come out of the cache
	putCached               // local: a slot may go into the cache
	pickCached              // local: which slot of the cache is given back next
	dropCached              // local: that one leaves the cache
	loadFree                // A1, G1
	loadSpare               // A2
	storeSpare              // G2
	swapFree                // A3, G3
)

// part is what all parts have.
type part struct {
	arena  *Arena
	thread int
	slot   int    // the one that it is about
	next   place  // where it goes on
	head   uint64 // Free, as it was loaded
}

// turn is one Ready or Step of a part: the desk, and the accesses that may be made at it.
type turn struct {
	*machine.Desk
	left int
}

func readying(d *machine.Desk) turn { return turn{d, 0} }

func stepping(d *machine.Desk) turn { return turn{d, 1} }

// access tells whether one more access may be made in this turn, and counts it.
func (t *turn) access() bool {
	t.left--
	return t.left >= 0
}
