package arena

import (
	"reclaim/api"
	"reclaim/word"
)

// freeAddr is the address of the free list's head.
func (a *Arena) freeAddr() int {
	addr, _ := word.Addr(a.config, api.Place{Region: api.RegionFree})
	return addr
}

// spareAddr is the address of the word behind a slot of the free list.
func (a *Arena) spareAddr(slot int) int {
	addr, _ := word.Addr(a.config, api.Place{Region: api.RegionSpare, I: slot})
	return addr
}

// firstOf is the slot that a head names. A memory that doesn't go with the arena may hold any word
// there: one that is no head names none.
func firstOf(head uint64) int {
	_, slot, e := word.Unhead(head)
	if e != api.OK {
		return none
	}
	return slot
}

// nextOf is the slot that a spare word names, likewise.
func nextOf(spare uint64) int {
	slot, _, e := word.Unlink(spare)
	if e != api.OK {
		return none
	}
	return slot
}

// headBehind is the head that comes behind another one: its tag is one higher, so that who has
// loaded the other one finds out, also where both name the same slot.
func headBehind(head uint64, slot int) uint64 {
	tag, _, _ := word.Unhead(head)
	w, _ := word.Head(tag+1, slot)
	return w
}

// plainLink is the link to a slot (none: to none) without a mark.
func plainLink(slot int) uint64 {
	w, _ := word.Link(slot, false)
	return w
}
