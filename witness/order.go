package witness

import (
	"reclaim/api"
	"reclaim/model"
)

// Check tells whether an order explains the calls.
func Check(calls []api.Call, order []int) api.Errno {
	_, e := Left(calls, order)
	return e
}

// Left is what an order leaves.
func Left(calls []api.Call, order []int) (api.Contents, api.Errno) {
	switch {
	case !May(calls):
		return api.Contents{}, api.ErrCalls
	case !isOrder(calls, order):
		return api.Contents{}, api.ErrOrder
	}
	ordered := make([]api.Call, len(order))
	for place, n := range order {
		ordered[place] = calls[n]
	}
	if !inTime(ordered) {
		return api.Contents{}, api.ErrEarly
	}
	left, wrong, _ := model.Play(api.Contents{}, ordered)
	if wrong >= 0 {
		return api.Contents{}, api.ErrAnswer
	}
	return left, api.OK
}

// isOrder tells whether a list has calls that count alone, none twice, and all of them that have ended.
func isOrder(calls []api.Call, order []int) bool {
	placed := make([]bool, len(calls))
	for _, n := range order {
		if !isNumber(calls, n) || !counts(calls[n]) || placed[n] {
			return false
		}
		placed[n] = true
	}
	for n, c := range calls {
		if counts(c) && ended(c) && !placed[n] {
			return false
		}
	}
	return true
}

// inTime tells whether no call stands behind one that it is ahead of. It is ahead of one of those that stand
// in front of it just if it is ahead of the one of them that began last.
func inTime(ordered []api.Call) bool {
	var latest api.Call
	for _, c := range ordered {
		if ahead(c, latest) {
			return false
		}
		if c.Begin > latest.Begin {
			latest = c
		}
	}
	return true
}
