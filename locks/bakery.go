package locks

// bakeryLock has threads choose numbers, each one above all that it sees; the lowest goes first, and of threads
// with the same number the one whose own is the lower.
type bakeryLock struct {
	threads int
}

func choosingOf(thread int) int {
	return threadsAddr + pairWords*thread
}

func numberOf(thread int) int {
	return choosingOf(thread) + 1
}

func (l bakeryLock) acquire(me int) work {
	return &choosing{bakeryLock: l, me: me}
}

func (l bakeryLock) release(me int) work {
	return &storing{addr: numberOf(me), word: 0}
}

// choosing gets the thread a number, and waits for all that go ahead of it.
type choosing struct {
	pause
	bakeryLock
	me     int
	number uint64 // 1 more than the greatest that it has seen; its own from then on
	other  int    // the thread that it looks at
}

const (
	openDoor place = iota
	seeNumber
	storeNumber
	closeDoor
	loadChoosing
	loadNumber
)

func (w *choosing) run(now *turn) bool {
	return w.choose(now) && w.wait(now)
}

// choose gets a number, and lets all others see meanwhile that it does.
func (w *choosing) choose(now *turn) bool {
	switch w.at {
	case seeNumber:
		goto see
	case storeNumber:
		goto store
	case closeDoor:
		goto closed
	case loadChoosing, loadNumber:
		return true
	}
	if w.leave(now, openDoor) {
		return false
	}
	now.Store(choosingOf(w.me), 1)
	w.number = 1
	w.other = beside(0, w.me)
see:
	if w.other >= w.threads {
		goto store
	}
	if w.leave(now, seeNumber) {
		return false
	}
	w.number = max(w.number, now.Load(numberOf(w.other))+1)
	w.other = beside(w.other+1, w.me)
	goto see
store:
	if w.leave(now, storeNumber) {
		return false
	}
	now.Store(numberOf(w.me), w.number)
closed:
	if w.leave(now, closeDoor) {
		return false
	}
	now.Store(choosingOf(w.me), 0)
	now.point()
	w.other = beside(0, w.me)
	return true
}

// wait lets all others go ahead, one after the other, that have the lower number or may be about to get it.
func (w *choosing) wait(now *turn) bool {
	if w.at == loadNumber {
		goto number
	}
door:
	if w.other >= w.threads {
		return true
	}
	if w.leave(now, loadChoosing) {
		return false
	}
	if now.Load(choosingOf(w.other)) != 0 {
		goto door
	}
number:
	if w.leave(now, loadNumber) {
		return false
	}
	if w.behind(now.Load(numberOf(w.other))) {
		goto number
	}
	w.other = beside(w.other+1, w.me)
	goto door
}

// behind tells whether the thread that it looks at, with that number, goes ahead of it.
func (w *choosing) behind(number uint64) bool {
	return number != 0 && (number < w.number || number == w.number && w.other < w.me)
}
