package epoch

import (
	"slices"

	"reclaim/api"
	"reclaim/word"
)

// Pinned is, of each thread, the epoch in which it is pinned behind a run (-1: it is not).
func Pinned(c api.Config, r api.Run) ([]int, api.Errno) {
	epoch, e := Local(c, nobody)
	if e != api.OK {
		return nil, e
	}
	locals := epoch + 1
	if len(r.Words) != locals+c.Threads {
		return nil, api.ErrRange
	}
	epochs := slices.Repeat([]int{none}, c.Threads)
	for thread, pinned := range pinnedBehind(c, r.Calls) {
		if pinned {
			epochs[thread] = word.Value(r.Words[locals+thread] - 1)
		}
	}
	return epochs, api.OK
}

// pinnedBehind tells of each thread whether the last one of its pins and unpins that has ended is a pin.
func pinnedBehind(c api.Config, calls []api.Call) []bool {
	pinned := make([]bool, c.Threads)
	for _, call := range calls {
		there := call.Thread >= 0 && call.Thread < c.Threads
		if there && call.End != none && (call.Op == api.OpPin || call.Op == api.OpUnpin) {
			pinned[call.Thread] = call.Op == api.OpPin
		}
	}
	return pinned
}
