package locks

import (
	"reclaim/api"
	"reclaim/machine"
)

// stand is what a thread has of the lock.
type stand int

const (
	outside stand = iota
	alone
	sharing
)

// hall is where each thread stands: that is in no shared word.
type hall struct {
	stands []stand
}

// kitOf are the calls of a new machine. What isn't in a kit is not begun either, so the calls that share are
// in it only where the lock can be shared.
func kitOf(c api.Locks) machine.Kit {
	h := &hall{stands: make([]stand, c.Threads)}
	l := lockOf(c)
	kit := machine.Kit{
		api.OpAcquire: h.maker(outside, alone, l.acquire),
		api.OpRelease: h.maker(alone, outside, l.release),
		api.OpTouch:   h.maker(alone, alone, touch),
	}
	if s, ok := l.(sharer); ok {
		kit[api.OpShare] = h.maker(outside, sharing, s.share)
		kit[api.OpUnshare] = h.maker(sharing, outside, s.unshare)
	}
	return kit
}

// maker begins calls of threads that stand in one way, and stand in another when the call has ended.
func (h *hall) maker(from, to stand, begin func(me int) work) machine.Maker {
	return func(thread int, _ api.Move) machine.Task {
		if h.stands[thread] != from {
			return nil
		}
		return &call{work: begin(thread), end: func() { h.stands[thread] = to }}
	}
}
