package hazard

import (
	"reclaim/api"
	"reclaim/chain"
)

// What a record's active word is.
const (
	idle  uint64 = 0
	taken uint64 = 1
)

func (h *Hazards) cellAddr() int {
	return chain.Addr(h.config(), api.Place{Region: api.RegionCell})
}

func (h *Hazards) activeAddr(record int) int {
	return chain.Addr(h.config(), api.Place{Region: api.RegionActive, I: record})
}

func (h *Hazards) hazardAddr(record int, k int) int {
	return chain.Addr(h.config(), api.Place{Region: api.RegionHazard, I: record, K: k})
}

func (h *Hazards) valueAddr(slot int) int {
	return chain.Addr(h.config(), api.Place{Region: api.RegionValue, I: slot})
}

// slotOf is the slot that a cell or a hazard names.
func (h *Hazards) slotOf(w uint64) int {
	return chain.Slot(h.config(), w)
}
