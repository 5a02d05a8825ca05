package epoch

import (
	"cmp"
	"slices"

	"reclaim/api"
	"reclaim/word"
)

// none stands for a move that there isn't: a call's End or Point.
const none = -1

// Holds tells whether the calls' points explain their answers.
func Holds(c api.Config, r api.Run) (bool, api.Errno) {
	if e := word.Check(c); e != api.OK {
		return false, e
	}
	var pointed []api.Call
	for _, call := range r.Calls {
		if call.Op != api.OpStow && call.Op != api.OpDraw {
			continue
		}
		if !timely(call) {
			return false, api.OK
		}
		if call.Point != none {
			pointed = append(pointed, call)
		}
	}
	slices.SortFunc(pointed, func(a, b api.Call) int { return cmp.Compare(a.Point, b.Point) })
	return apart(pointed) && explained(pointed), api.OK
}

// timely tells whether a call's point, if it has one, lies in the call; one that has ended has one.
func timely(c api.Call) bool {
	if c.Point == none {
		return c.End == none
	}
	return c.Point > c.Begin && (c.End == none || c.Point <= c.End)
}

// apart tells whether no two calls, in the order of their points, have the same.
func apart(calls []api.Call) bool {
	for i := 1; i < len(calls); i++ {
		if calls[i].Point == calls[i-1].Point {
			return false
		}
	}
	return true
}

// explained tells whether calls, one behind the other, answer what a stack would that is empty at first.
func explained(calls []api.Call) bool {
	var values []int
	for _, c := range calls {
		full := c.Answer == api.Answer{Kind: api.AnswerFull}
		switch {
		case c.End != none && c.Op == api.OpStow && full:
		case c.End != none && c.Answer != wouldAnswer(values, c.Op):
			return false
		case c.Op == api.OpStow:
			values = append(values, c.Arg)
		case len(values) > 0:
			values = values[:len(values)-1]
		}
	}
	return true
}

// wouldAnswer is what a stack of these values, the top's last, answers to a call, where a slot is left.
func wouldAnswer(values []int, op api.Op) api.Answer {
	switch {
	case op == api.OpStow:
		return api.Answer{Kind: api.AnswerDone}
	case len(values) == 0:
		return api.Answer{Kind: api.AnswerEmpty}
	}
	return api.Answer{Kind: api.AnswerValue, Value: values[len(values)-1]}
}
