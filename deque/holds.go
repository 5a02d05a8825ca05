package deque

import (
	"slices"

	"reclaim/api"
)

// Holds tells whether the points explain a run's answers.
func Holds(d api.Deque, r api.Run) (bool, api.Errno) {
	calls, e := pointed(d, r)
	if e != api.OK {
		return false, e
	}
	return !slices.ContainsFunc(calls, untimely) && explained(d, calls), api.OK
}

// untimely tells whether a call's point lies out of the call.
func untimely(c api.Call) bool {
	return c.Point <= c.Begin || c.End != none && c.Point > c.End
}

// explained tells whether calls, one behind the other, answer what a deque would that is empty at first.
func explained(d api.Deque, calls []api.Call) bool {
	var values []int
	for _, c := range calls {
		left, answer := atOnce(d, values, c)
		if c.End != none && c.Answer != answer {
			return false
		}
		values = left
	}
	return true
}

// atOnce is what a call that is made at once leaves of values, the top's first, and what it answers.
func atOnce(d api.Deque, values []int, c api.Call) ([]int, api.Answer) {
	count := len(values)
	switch {
	case c.Op == api.OpDequePush && count >= d.Room:
		return values, api.Answer{Kind: api.AnswerFull}
	case c.Op == api.OpDequePush:
		return append(values, c.Arg), api.Answer{Kind: api.AnswerDone}
	case count == 0:
		return nil, api.Answer{Kind: api.AnswerEmpty}
	case c.Op == api.OpDequeTake:
		return values[:count-1], valueAnswer(values[count-1])
	}
	return values[1:], valueAnswer(values[0])
}
