package locks

// nodeLock is a queue in which each thread waits at a flag of its own, and is told by the one ahead. A word
// names a thread by 1 more than its number, none by 0.
type nodeLock struct{}

func nextOf(thread int) int {
	return nodesAddr + pairWords*thread
}

func waitsOf(thread int) int {
	return nextOf(thread) + 1
}

// nameOf is the word that names a thread, named the thread that a word names.

func nameOf(thread int) uint64 {
	return uint64(thread) + 1
}

func named(name uint64) int {
	return int(name) - 1
}

func (nodeLock) acquire(me int) work {
	return &linking{me: me}
}

func (nodeLock) release(me int) work {
	return &handing{me: me}
}

// linking gets a thread to the queue's end and from there to its front.
type linking struct {
	pause
	me    int
	ahead uint64 // names the thread ahead, once it is at the end
}

const (
	clearNext place = iota
	loadLast
	swapLast
	raiseWaits
	storeNext
	loadWaits
)

func (w *linking) run(now *turn) bool {
	return w.link(now) && (w.ahead == 0 || w.wait(now))
}

// link puts the thread at the queue's end.
func (w *linking) link(now *turn) bool {
	switch w.at {
	case loadLast:
		goto load
	case swapLast:
		goto swap
	case raiseWaits, storeNext, loadWaits:
		return true
	}
	if w.leave(now, clearNext) {
		return false
	}
	now.Store(nextOf(w.me), 0)
load:
	if w.leave(now, loadLast) {
		return false
	}
	w.ahead = now.Load(tailAddr)
swap:
	if w.leave(now, swapLast) {
		return false
	}
	if !now.Swap(tailAddr, w.ahead, nameOf(w.me)) {
		goto load
	}
	now.point()
	return true
}

// wait tells the thread ahead who is next, and waits till that one has handed the lock on.
func (w *linking) wait(now *turn) bool {
	switch w.at {
	case storeNext:
		goto tell
	case loadWaits:
		goto wait
	}
	if w.leave(now, raiseWaits) {
		return false
	}
	now.Store(waitsOf(w.me), 1)
tell:
	if w.leave(now, storeNext) {
		return false
	}
	now.Store(nextOf(named(w.ahead)), nameOf(w.me))
wait:
	if w.leave(now, loadWaits) {
		return false
	}
	if now.Load(waitsOf(w.me)) != 0 {
		goto wait
	}
	return true
}

// handing hands the lock to the next thread. One that is at the queue's end already and has not told yet is
// waited for.
type handing struct {
	pause
	me   int
	next uint64
}

const (
	findNext place = iota
	clearTail
	awaitNext
	lowerWaits
)

func (w *handing) run(now *turn) bool {
	switch w.at {
	case clearTail:
		goto swap
	case awaitNext:
		goto wait
	case lowerWaits:
		goto hand
	}
	if w.leave(now, findNext) {
		return false
	}
	w.next = now.Load(nextOf(w.me))
	if w.next != 0 {
		goto hand
	}
swap:
	if w.leave(now, clearTail) {
		return false
	}
	if now.Swap(tailAddr, nameOf(w.me), 0) {
		return true
	}
wait:
	if w.leave(now, awaitNext) {
		return false
	}
	w.next = now.Load(nextOf(w.me))
	if w.next == 0 {
		goto wait
	}
hand:
	if w.leave(now, lowerWaits) {
		return false
	}
	now.Store(waitsOf(named(w.next)), 0)
	return true
}
