package arena

import (
	"reclaim/api"
	"reclaim/machine"
)

// Taking is the part that takes a slot.
type Taking struct {
	part
	behind uint64 // the spare word of the head's slot
	taken  bool
}

// Take makes one.
func (a *Arena) Take(thread int) *Taking {
	if !a.made() {
		return &Taking{}
	}
	return &Taking{part: part{arena: a, thread: thread, next: takeCached}}
}

// Ready takes a slot out of the cache, if there is one.
func (t *Taking) Ready(d *machine.Desk) bool {
	return t == nil || t.run(readying(d))
}

// Step makes an access.
func (t *Taking) Step(d *machine.Desk) bool {
	return t == nil || t.run(stepping(d))
}

// Slot is the slot that was taken; -1: there was none.
func (t *Taking) Slot() int {
	if t == nil || !t.taken {
		return none
	}
	return t.slot
}

// run takes the loop up where it was left, goes on as far as the turn lets it, and tells whether
// the part has ended.
func (t *Taking) run(now turn) bool {
	a := t.arena
taking:
	for {
		switch t.next {
		case takeCached:
			t.next = loadFree
			if t.slot = a.last(t.thread); t.slot != none {
				a.drop(t.thread, t.slot)
				t.own(now.Desk)
			}
		case loadFree:
			if !now.access() {
				break taking
			}
			t.head = now.Load(a.freeAddr())
			t.next = loadSpare
			if t.slot = firstOf(t.head); !a.hasSlot(t.slot) {
				t.next = over
			}
		case loadSpare:
			if !now.access() {
				break taking
			}
			t.behind = now.Load(a.spareAddr(t.slot))
			t.next = swapFree
		case swapFree:
			if !now.access() {
				break taking
			}
			if !now.Swap(a.freeAddr(), t.head, headBehind(t.head, nextOf(t.behind))) {
				t.next = loadFree
				continue taking
			}
			t.own(now.Desk)
		default:
			break taking
		}
	}
	return t.next == over
}

// own ends the part with its slot.
func (t *Taking) own(d *machine.Desk) {
	t.arena.Shift(d, t.slot, api.StateOwned)
	t.taken = true
	t.next = over
}
