package hazard

import (
	"reclaim/api"
	"reclaim/chain"
)

// registering is a call that takes a record.
type registering struct {
	*Hazards
	thread int
	record int // the one that is tried
	next   place
}

func (h *Hazards) register(thread int) *registering {
	return &registering{Hazards: h, thread: thread, next: loadActive}
}

// run takes the call up where it was left, goes on as far as the turn lets it, and tells whether
// it has ended.
func (r *registering) run(now *turn) bool {
	switch r.next {
	case loadActive:
		if !now.access() {
			return false
		}
		if now.Load(r.activeAddr(r.record)) == taken {
			return r.another(now)
		}
		r.next = swapActive
		fallthrough
	case swapActive:
		if !now.access() {
			return false
		}
		if !now.Swap(r.activeAddr(r.record), idle, taken) {
			return r.another(now)
		}
		r.held[r.thread] = r.record
		now.Answer(api.Answer{Kind: api.AnswerValue, Value: r.record})
		r.next = over
		fallthrough
	default:
		return true
	}
}

// another goes on with the next record; behind the last one the call has ended.
func (r *registering) another(now *turn) bool {
	r.record++
	r.next = loadActive
	if r.hasRecord(r.record) {
		return false
	}
	now.Answer(api.Answer{Kind: api.AnswerFull})
	r.next = over
	return true
}

// unregistering is a call that lets the thread's record go.
type unregistering struct {
	*Hazards
	thread int
	k      int // the hazard that is cleared
	next   place
	scan   piece
	flush  piece
}

func (h *Hazards) unregister(thread int) *unregistering {
	return &unregistering{
		Hazards: h, thread: thread, next: storeHazard,
		scan:  pieceOf(h.Scan(thread)),
		flush: pieceOf(h.arena.Flush(thread)),
	}
}

// run takes the call up where it was left, goes on as far as the turn lets it, and tells whether
// it has ended.
func (u *unregistering) run(now *turn) bool {
	switch u.next {
	case storeHazard:
		for ; u.k < u.config().Hazards; u.k++ {
			if !now.access() {
				return false
			}
			now.Store(u.Addr(u.thread, u.k), chain.Link(none))
		}
		u.next = scanList
		fallthrough
	case scanList:
		if !now.through(&u.scan) {
			return false
		}
		u.next = flushCache
		fallthrough
	case flushCache:
		if !now.through(&u.flush) {
			return false
		}
		u.next = storeActive
		fallthrough
	case storeActive:
		if !now.access() {
			return false
		}
		now.Store(u.activeAddr(u.Record(u.thread)), idle)
		u.held[u.thread] = none
		u.next = over
		fallthrough
	default:
		return true
	}
}
