package locks

// filterLock has levels, from 1 to one below the threads: of all that come to a level one is kept waiting
// there, so that the last level is left by one alone.
type filterLock struct {
	threads int
}

// level is the address of a thread's level, 0 while it is outside.
func (l filterLock) level(thread int) int {
	return threadsAddr + thread
}

// victim is the address of the thread that came last to a level. (Level 1 has its word behind the threads'.)
func (l filterLock) victim(level int) int {
	return l.threads + level
}

func (l filterLock) acquire(me int) work {
	return &climbing{filterLock: l, me: me, mine: 1}
}

func (l filterLock) release(me int) work {
	return &storing{addr: l.level(me), word: 0}
}

// climbing goes up level by level; at each it waits till all others are below, or one has come behind it.
type climbing struct {
	pause
	filterLock
	me    int
	mine  int // its level
	other int // the thread that it looks at
}

const (
	storeLevel place = iota
	storeVictim
	loadLevel
	loadVictim
)

func (w *climbing) run(now *turn) bool {
	switch w.at {
	case storeVictim:
		goto victim
	case loadLevel:
		goto look
	case loadVictim:
		goto wait
	}
climb:
	if w.mine == w.threads {
		now.point()
		return true
	}
	if w.leave(now, storeLevel) {
		return false
	}
	now.Store(w.level(w.me), uint64(w.mine))
victim:
	if w.leave(now, storeVictim) {
		return false
	}
	now.Store(w.victim(w.mine), uint64(w.me))
again:
	w.other = beside(0, w.me)
look:
	if w.other >= w.threads {
		w.mine++
		goto climb
	}
	if w.leave(now, loadLevel) {
		return false
	}
	if now.Load(w.level(w.other)) < uint64(w.mine) {
		w.other = beside(w.other+1, w.me)
		goto look
	}
wait:
	if w.leave(now, loadVictim) {
		return false
	}
	if now.Load(w.victim(w.mine)) == uint64(w.me) {
		goto again
	}
	w.mine++
	goto climb
}

// beside is a thread's number, or, where that is me, the next one.
func beside(thread, me int) int {
	if thread == me {
		return thread + 1
	}
	return thread
}
