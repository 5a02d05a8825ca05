package locks

import (
	"reclaim/api"
	"reclaim/word"
)

// touching counts one more, by a load and a store that nothing but the lock keeps together.
type touching struct {
	pause
	count uint64
}

const (
	loadCount place = iota
	storeCount
)

func touch(int) work {
	return &touching{}
}

func (w *touching) run(now *turn) bool {
	if w.at == storeCount {
		goto store
	}
	if w.leave(now, loadCount) {
		return false
	}
	w.count = now.Load(countAddr)
store:
	if w.leave(now, storeCount) {
		return false
	}
	now.Store(countAddr, w.count+1)
	now.Answer(api.Answer{Kind: api.AnswerValue, Value: word.Value(w.count)})
	return true
}
