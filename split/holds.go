package split

import (
	"cmp"
	"slices"

	"reclaim/api"
	"reclaim/model"
)

// Holds tells whether the points explain a run's answers.
func Holds(s api.Split, r api.Run) (bool, api.Errno) {
	pairs, e := Look(s, r.Words)
	if e != api.OK {
		return false, e
	}
	calls, timely := pointed(r.Calls)
	if !timely {
		return false, api.OK
	}
	left, wrong, _ := model.Play(api.Contents{}, calls)
	return wrong == none && slices.Equal(left.Table, pairs), api.OK
}

// pointed are the table's calls that have a point, in the order of these, and true; false, if a point is
// missing, lies out of its call, or is that of two calls.
func pointed(all []api.Call) ([]api.Call, bool) {
	var calls []api.Call
	for _, c := range all {
		switch {
		case !ofTable(c.Op):
		case c.Point != none && timely(c):
			calls = append(calls, toBeAllowed(c))
		case c.Point != none || c.End != none:
			return nil, false
		}
	}
	slices.SortFunc(calls, func(a, b api.Call) int { return cmp.Compare(a.Point, b.Point) })
	for i := 1; i < len(calls); i++ {
		if calls[i-1].Point == calls[i].Point {
			return nil, false
		}
	}
	return calls, true
}

func ofTable(op api.Op) bool {
	return op == api.OpAdd || op == api.OpGet || op == api.OpRemove
}

// timely tells whether a call's point lies within it.
func timely(c api.Call) bool {
	return c.Begin < c.Point && (c.End == none || c.Point <= c.End)
}

// toBeAllowed is a call with the answer that the model is asked for: one that has not ended may answer
// anything.
func toBeAllowed(c api.Call) api.Call {
	if c.End == none {
		c.Answer = api.Answer{}
	}
	return c
}
