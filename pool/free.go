package pool

import (
	"reclaim/api"
	"reclaim/word"
)

// Free is the slots of the free list, the head's ahead.
func Free(c api.Config, words []uint64) ([]int, api.Errno) {
	v, e := viewOf(c, words)
	if e != api.OK {
		return nil, e
	}
	return shaped(v, v.free())
}

func (v *view) free() []int {
	_, first, e := word.Unhead(v.word(api.RegionFree, 0))
	if e != api.OK {
		v.odd = true
		return nil
	}
	var slots []int
	for slot := range v.along(api.RegionSpare, v.enter(first), plain) {
		slots = append(slots, slot)
	}
	return slots
}
