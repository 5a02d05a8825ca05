package deque

import (
	"reclaim/api"
	"reclaim/word"
)

// Left are the values that words hold.
func Left(d api.Deque, words []uint64) ([]int, api.Errno) {
	if e := check(d); e != api.OK {
		return nil, e
	}
	if len(words) != size(d) {
		return nil, api.ErrDequeRun
	}
	top, bottom := word.Value(words[topAddr]), word.Value(words[bottomAddr])
	if top < 0 || top > api.MaxMoves || bottom < top-1 || bottom > top+d.Room {
		return nil, api.ErrDequeRun
	}
	var values []int
	for number := top; number < bottom; number++ {
		values = append(values, word.Value(words[cellOf(d.Room, number)]))
	}
	return values, api.OK
}
