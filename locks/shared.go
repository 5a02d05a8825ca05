package locks

import "reclaim/word"

// sharedLock is a word that counts how many share it; below 0, a thread has it alone.
type sharedLock struct{}

// takenAlone is the state while a thread has it alone.
const takenAlone = -1

func (sharedLock) acquire(int) work {
	return &seizing{addr: stateAddr, taken: word.Number(takenAlone)}
}

func (sharedLock) release(int) work {
	return &storing{addr: stateAddr, word: 0}
}

func (sharedLock) share(int) work {
	return &entering{}
}

func (sharedLock) unshare(int) work {
	return &leaving{}
}

const (
	loadState place = iota
	swapState
)

// entering counts one more, once nobody has the lock alone.
type entering struct {
	pause
	count uint64
}

func (w *entering) run(now *turn) bool {
	if w.at == swapState {
		goto swap
	}
load:
	if w.leave(now, loadState) {
		return false
	}
	w.count = now.Load(stateAddr)
	if word.Value(w.count) < 0 {
		goto load
	}
swap:
	if w.leave(now, swapState) {
		return false
	}
	if !now.Swap(stateAddr, w.count, w.count+1) {
		goto load
	}
	now.point()
	return true
}

// leaving counts one less.
type leaving struct {
	pause
	count uint64
}

func (w *leaving) run(now *turn) bool {
	if w.at == swapState {
		goto swap
	}
load:
	if w.leave(now, loadState) {
		return false
	}
	w.count = now.Load(stateAddr)
swap:
	if w.leave(now, swapState) {
		return false
	}
	if !now.Swap(stateAddr, w.count, w.count-1) {
		goto load
	}
	return true
}
