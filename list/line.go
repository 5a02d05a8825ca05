package list

import (
	"reclaim/api"
	"reclaim/base"
	"reclaim/chain"
	"reclaim/hazard"
	"reclaim/word"
)

// none stands for a slot, a move or an address that there isn't.
const none = chain.None

// line is what a thread's parts stand on: the hazards that it names slots by, and the arena that these
// are of.
type line struct {
	on     base.Base
	thread int
}

func lineOf(h *hazard.Hazards, thread int) line {
	b, _ := base.On(h)
	return line{b, thread}
}

// holds tells whether the thread holds a record; over no hazards none does.
func (l line) holds() bool {
	return l.on.Hazards.Record(l.thread) != none
}

// has tells whether a memory that goes with the hazards has an address.
func (l line) has(addr int) bool {
	_, e := word.At(l.on.Arena.Config(), addr)
	return e == api.OK
}

func (l line) hazardAddr(k int) int {
	return l.on.Hazards.Addr(l.thread, k)
}

func (l line) valueAddr(slot int) int {
	return l.on.Addr(api.RegionValue, slot)
}

func (l line) dataAddr(slot int) int {
	return l.on.Addr(api.RegionData, slot)
}

func (l line) linkAddr(slot int) int {
	return l.on.Addr(api.RegionLink, slot)
}

// slot is the one that a link names, whether or not it has a mark; none, if there is no such slot.
func (l line) slot(link uint64) int {
	return l.on.Slot(chain.Mark(link, false))
}
