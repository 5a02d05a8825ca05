package hazard

import (
	"reclaim/api"
	"reclaim/arena"
	"reclaim/chain"
	"reclaim/word"
)

// posting is a call that publishes a slot with a value.
type posting struct {
	*Hazards
	thread int
	value  int
	next   place
	taking *arena.Taking
	take   piece
	retire piece
	seen   uint64 // the cell, as it was loaded
}

func (h *Hazards) post(thread int, value int) *posting {
	taking := h.arena.Take(thread)
	return &posting{Hazards: h, thread: thread, value: value, next: takeSlot, taking: taking, take: pieceOf(taking)}
}

// run takes the call up where it was left, goes on as far as the turn lets it, and tells whether
// it has ended.
func (p *posting) run(now *turn) bool {
	switch p.next {
	case takeSlot:
		if !now.through(&p.take) {
			return false
		}
		if p.taking.Slot() == none {
			now.tellHere(api.AnswerFull)
			p.next = over
			return true
		}
		p.next = storeValue
		fallthrough
	case storeValue:
		if !now.access() {
			return false
		}
		now.Store(p.valueAddr(p.taking.Slot()), word.Number(p.value))
		p.next = loadCell
		fallthrough
	case loadCell:
		if !now.access() {
			return false
		}
		p.seen = now.Load(p.cellAddr())
		p.next = swapCell
		fallthrough
	case swapCell:
		if !now.access() {
			return false
		}
		if !now.Swap(p.cellAddr(), p.seen, chain.Link(p.taking.Slot())) {
			p.next = loadCell
			return false
		}
		p.publish(now)
		p.next = retireOld
		fallthrough
	case retireOld:
		if !now.through(&p.retire) {
			return false
		}
		p.next = over
		fallthrough
	default:
		return true
	}
}

// publish is what follows the swap of the cell: the slot is linked, the one ahead of it is not. (If
// there was none ahead, there is nothing to retire, and the part ends at once.)
func (p *posting) publish(now *turn) {
	old := p.slotOf(p.seen)
	now.Point(now.Now())
	p.arena.Shift(now.Desk, p.taking.Slot(), api.StateLinked)
	p.arena.Shift(now.Desk, old, api.StateDetached)
	p.retire = pieceOf(p.Retire(p.thread, old))
}

// reading is a call that tells the published value, and lets a hazard name its slot.
type reading struct {
	*Hazards
	hazard int // its address
	next   place
	seen   uint64 // the cell, as it was loaded last
	move   int    // the one in which it was seen unchanged
}

func (h *Hazards) read(thread int, k int) *reading {
	return &reading{Hazards: h, hazard: h.Addr(thread, k), next: loadCell}
}

// run takes the call up where it was left, goes on as far as the turn lets it, and tells whether
// it has ended.
func (r *reading) run(now *turn) bool {
	switch r.next {
	case loadCell:
		if !now.access() {
			return false
		}
		if !r.sees(now, now.Load(r.cellAddr())) {
			return true
		}
		fallthrough
	case storeHazard:
		if !now.access() {
			return false
		}
		now.Store(r.hazard, r.seen)
		r.next = loadAgain
		fallthrough
	case loadAgain:
		if !now.access() {
			return false
		}
		if w := now.Load(r.cellAddr()); w != r.seen {
			return !r.sees(now, w)
		}
		r.move = now.Now()
		r.next = loadValue
		fallthrough
	case loadValue:
		if !now.access() {
			return false
		}
		w := now.Load(r.valueAddr(r.slotOf(r.seen)))
		now.Point(r.move)
		now.Answer(api.Answer{Kind: api.AnswerValue, Value: word.Value(w)})
		r.next = over
		fallthrough
	default:
		return true
	}
}

// sees goes on with the slot that the cell names; false: it names none, and the call has ended.
func (r *reading) sees(now *turn, w uint64) bool {
	r.seen = w
	r.next = storeHazard
	if r.slotOf(w) == none {
		now.tellHere(api.AnswerEmpty)
		r.next = over
	}
	return r.next != over
}
