package deque

import "reclaim/api"

// Spread is how many calls of each thread have answered a value.
func Spread(d api.Deque, r api.Run) ([]int, api.Errno) {
	if _, e := pointed(d, r); e != api.OK {
		return nil, e
	}
	counts := make([]int, d.Threads)
	for _, c := range r.Calls {
		if c.Answer.Kind == api.AnswerValue {
			counts[c.Thread]++
		}
	}
	return counts, api.OK
}
