package mcas

import (
	"cmp"
	"slices"

	"reclaim/api"
)

// Holds tells whether the moments of a run's calls explain what they answer, and what the cells hold at its end.
func Holds(c api.Multi, r api.Run) (bool, api.Errno) {
	left, e := Cells(c, r.Words)
	if e != api.OK {
		return false, e
	}
	if !mayCall(c, r.Calls) {
		return false, api.ErrMultiRun
	}
	if slices.ContainsFunc(r.Calls, pointless) {
		return false, api.OK
	}
	moments := momentsOf(c, r)
	if slices.ContainsFunc(moments, moment.untimely) {
		return false, api.OK
	}
	slices.SortFunc(moments, func(a, b moment) int { return cmp.Compare(a.at, b.at) })
	return apart(moments) && explained(c, moments, left), api.OK
}

// mayCall tells whether a machine could have begun all of these calls.
func mayCall(c api.Multi, calls []api.Call) bool {
	begun := make([]int, c.Threads)
	for _, call := range calls {
		if !within(call.Thread, 0, c.Threads-1) {
			return false
		}
		switch call.Op {
		case api.OpMulti:
			begun[call.Thread]++
			if begun[call.Thread] > c.Uses || !within(call.Arg, 0, len(c.Swaps)-1) {
				return false
			}
		case api.OpMultiRead:
			if !within(call.Arg, 0, len(c.Cells)-1) {
				return false
			}
		default:
			return false
		}
	}
	return true
}

// pointless tells whether a call has ended without a point.
func pointless(c api.Call) bool {
	return c.End != none && c.Point == none
}

// apart tells whether no two of the moments, which rise, are the same.
func apart(moments []moment) bool {
	for i := range moments {
		if i > 0 && moments[i-1].at == moments[i].at {
			return false
		}
	}
	return true
}

// explained tells whether the calls, each made at once at its moment, answer what they do, and leave that in the
// cells.
func explained(c api.Multi, moments []moment, left []int) bool {
	cells := slices.Clone(c.Cells)
	for _, m := range moments {
		answer := atOnce(c, cells, m.call)
		if m.call.End != none && m.call.Answer != answer {
			return false
		}
	}
	return slices.Equal(cells, left)
}

// atOnce makes a call at once on the cells, and tells its answer.
func atOnce(c api.Multi, cells []int, call api.Call) api.Answer {
	if call.Op == api.OpMultiRead {
		return api.Answer{Kind: api.AnswerValue, Value: cells[call.Arg]}
	}
	swap := c.Swaps[call.Arg]
	if slices.ContainsFunc(swap, func(e api.MultiEntry) bool { return cells[e.Cell] != e.Old }) {
		return api.Answer{Kind: api.AnswerNo}
	}
	for _, e := range swap {
		cells[e.Cell] = e.New
	}
	return api.Answer{Kind: api.AnswerYes}
}
