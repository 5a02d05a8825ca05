package epoch

import "slices"

// grace is how many epochs a slot waits: who was pinned when it was unlinked is not pinned any more
// when the epoch has moved on twice since.
const grace = 2

// bag is the slots that a thread has retired, in the order in which they were put in.
type bag []retired

// retired is a slot with the epoch that was read when it was put in.
type retired struct {
	slot  int
	epoch int
}

// due is the place of the first slot that may be given back in an epoch; below 0: there is none.
func (b bag) due(epoch int) int {
	return slices.IndexFunc(b, func(r retired) bool { return r.epoch <= epoch-grace })
}

// without is the bag without the slot at a place. What is ahead of that is cut to its length, so that
// the rest is put behind it in new memory, and the bag itself stays as it was.
func (b bag) without(place int) bag {
	return append(b[:place:place], b[place+1:]...)
}
