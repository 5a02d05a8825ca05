package hazard

import (
	"reclaim/api"
	"reclaim/word"
)

// What a record's active word is.
const (
	idle  uint64 = 0
	taken uint64 = 1
)

func (h *Hazards) cellAddr() int {
	return h.addr(api.Place{Region: api.RegionCell})
}

func (h *Hazards) activeAddr(record int) int {
	return h.addr(api.Place{Region: api.RegionActive, I: record})
}

func (h *Hazards) hazardAddr(record int, k int) int {
	return h.addr(api.Place{Region: api.RegionHazard, I: record, K: k})
}

func (h *Hazards) valueAddr(slot int) int {
	return h.addr(api.Place{Region: api.RegionValue, I: slot})
}

// addr is a place's address; none, if the memory has no such place.
func (h *Hazards) addr(p api.Place) int {
	addr, e := word.Addr(h.config(), p)
	if e != api.OK {
		return none
	}
	return addr
}

// slotOf is the slot that a cell or a hazard names. A memory that doesn't go with the arena may
// hold any word there: one that is no plain link to a slot names none.
func (h *Hazards) slotOf(w uint64) int {
	slot, mark, e := word.Unlink(w)
	if e != api.OK || mark || !h.hasSlot(slot) {
		return none
	}
	return slot
}

// linkTo is the plain link to a slot (none: to none).
func linkTo(slot int) uint64 {
	w, _ := word.Link(slot, false)
	return w
}
