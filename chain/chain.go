// Package chain has what the objects over an arena's slots share: where their words lie, and which
// slot a word names. A memory that doesn't go with the arena may hold any word, or lack some: what
// there isn't is told apart, so that no object has to trust its memory.
package chain

import (
	"reclaim/api"
	"reclaim/word"
)

// None stands for a slot, a record or an address that there isn't.
const None = -1

// Addr is a place's address; None, if a memory of that configuration has no such place.
func Addr(c api.Config, p api.Place) int {
	addr, e := word.Addr(c, p)
	if e != api.OK {
		return None
	}
	return addr
}

// Slot is the slot that a word names; None, if it is no plain link to a slot that there is.
func Slot(c api.Config, w uint64) int {
	slot, mark, e := word.Unlink(w)
	if e != api.OK || mark || slot >= c.Slots {
		return None
	}
	return slot
}

// Marked tells whether a word is a link that has a mark.
func Marked(w uint64) bool {
	_, mark, e := word.Unlink(w)
	return e == api.OK && mark
}

// Mark is a link with a mark, or without one; a word that is no link stays as it is.
func Mark(w uint64, mark bool) uint64 {
	slot, _, e := word.Unlink(w)
	if e != api.OK {
		return w
	}
	w, _ = word.Link(slot, mark)
	return w
}

// Link is the plain link to a slot; of None, the one to none.
func Link(slot int) uint64 {
	w, _ := word.Link(slot, false)
	return w
}
