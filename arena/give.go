package arena

import (
	"reclaim/api"
	"reclaim/machine"
)

// putting is the loop that puts slots ahead of the free list: one that is given, or those of a
// cache, one after the other.
type putting struct {
	part
	done place // where it goes on behind a slot that it has put there
}

// Giving is the part that gives a slot back.
type Giving struct {
	putting
}

// Give makes one.
func (a *Arena) Give(thread int, slot int) *Giving {
	if !a.hasSlot(slot) || !a.hasThread(thread) {
		return &Giving{}
	}
	p := part{arena: a, thread: thread, slot: slot, next: putCached}
	return &Giving{putting{part: p, done: over}}
}

// Ready puts the slot into the cache, if there is room.
func (g *Giving) Ready(d *machine.Desk) bool {
	return g == nil || g.run(readying(d))
}

// Step makes an access.
func (g *Giving) Step(d *machine.Desk) bool {
	return g == nil || g.run(stepping(d))
}

// Flushing is the part that gives a thread's cache back.
type Flushing struct {
	putting
}

// Flush makes one.
func (a *Arena) Flush(thread int) *Flushing {
	p := part{arena: a, thread: thread, next: pickCached}
	return &Flushing{putting{part: p, done: dropCached}}
}

// Ready tells whether the cache is empty.
func (f *Flushing) Ready(d *machine.Desk) bool {
	return f == nil || f.run(readying(d))
}

// Step makes an access.
func (f *Flushing) Step(d *machine.Desk) bool {
	return f == nil || f.run(stepping(d))
}

// run takes the loop up where it was left, goes on as far as the turn lets it, and tells whether
// the part has ended.
func (p *putting) run(now turn) bool {
	a := p.arena
putting:
	for {
		switch p.next {
		case putCached:
			p.next = loadFree
			if a.hasRoom(p.thread) {
				a.putLast(p.thread, p.slot)
				a.Shift(now.Desk, p.slot, api.StateCached)
				p.next = over
			}
		case pickCached:
			p.next = loadFree
			if p.slot = a.last(p.thread); p.slot == none {
				p.next = over
			}
		case dropCached:
			a.drop(p.thread, p.slot)
			p.next = pickCached
		case loadFree:
			if !now.access() {
				break putting
			}
			p.head = now.Load(a.freeAddr())
			p.next = storeSpare
		case storeSpare:
			if !now.access() {
				break putting
			}
			now.Store(a.spareAddr(p.slot), plainLink(firstOf(p.head)))
			p.next = swapFree
		case swapFree:
			if !now.access() {
				break putting
			}
			if !now.Swap(a.freeAddr(), p.head, headBehind(p.head, p.slot)) {
				p.next = loadFree
				continue putting
			}
			a.Shift(now.Desk, p.slot, api.StateFree)
			p.next = p.done
		default:
			break putting
		}
	}
	return p.next == over
}
