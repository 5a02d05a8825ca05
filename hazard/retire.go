package hazard

import (
	"reclaim/api"
	"reclaim/machine"
)

// Retiring is the part that retires a slot.
type Retiring struct {
	hazards *Hazards
	thread  int
	slot    int
	next    place
	scan    piece
}

// Retire makes one.
func (h *Hazards) Retire(thread int, slot int) *Retiring {
	if !h.made() || !h.hasSlot(slot) {
		return &Retiring{}
	}
	return &Retiring{hazards: h, thread: thread, slot: slot, next: putRetired}
}

// Ready puts the slot into the list; a list that is long enough is scanned.
func (r *Retiring) Ready(d *machine.Desk) bool {
	return r == nil || r.run(readying(d))
}

// Step makes an access.
func (r *Retiring) Step(d *machine.Desk) bool {
	return r == nil || r.run(stepping(d))
}

// run takes the part up where it was left, goes on as far as the turn lets it, and tells whether
// it has ended.
func (r *Retiring) run(now *turn) bool {
	switch r.next {
	case putRetired:
		if !r.put(now) {
			r.next = over
			return true
		}
		r.scan = pieceOf(r.hazards.Scan(r.thread))
		r.next = scanList
		fallthrough
	case scanList:
		if !now.through(&r.scan) {
			return false
		}
		r.next = over
		fallthrough
	default:
		return true
	}
}

// put puts the slot behind the list of the thread's record, if it holds one, and tells whether the
// list is to be scanned.
func (r *Retiring) put(now *turn) bool {
	h := r.hazards
	record := h.Record(r.thread)
	if record == none {
		return false
	}
	h.arena.Shift(now.Desk, r.slot, api.StateRetired)
	h.lists[record] = append(h.lists[record], r.slot)
	return len(h.lists[record]) >= h.config().Retire
}
