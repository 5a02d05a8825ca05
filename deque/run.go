package deque

import (
	"cmp"
	"slices"

	"reclaim/api"
)

// none stands for a move that there isn't: a call's End or Point.
const none = -1

// pointed are the calls of a run that have a point, in the order of these; an error, if the run is none of
// this layer's machine.
func pointed(d api.Deque, r api.Run) ([]api.Call, api.Errno) {
	if _, e := Left(d, r.Words); e != api.OK {
		return nil, e
	}
	var calls []api.Call
	for _, c := range r.Calls {
		if !known(d, c) {
			return nil, api.ErrDequeRun
		}
		if c.Point != none {
			calls = append(calls, c)
		}
	}
	slices.SortFunc(calls, inOrder)
	if !apart(calls) {
		return nil, api.ErrDequeRun
	}
	return calls, api.OK
}

// known tells whether the machine has such a call of that thread.
func known(d api.Deque, c api.Call) bool {
	switch c.Op {
	case api.OpDequePush, api.OpDequeTake:
		return c.Thread == owner
	case api.OpSteal:
		return c.Thread >= 0 && c.Thread < d.Threads
	}
	return false
}

// inOrder is which of two calls comes first: by their points, of two that have the same the steal.
func inOrder(a, b api.Call) int {
	return cmp.Or(cmp.Compare(a.Point, b.Point), cmp.Compare(rank(a.Op), rank(b.Op)))
}

func rank(op api.Op) int {
	if op == api.OpSteal {
		return 0
	}
	return 1
}

// apart tells whether no two calls, in their order, have the same point, but for a steal and a take: these
// may, since a steal has the take's point where both were at the last value and the take has not seen yet
// that it is gone.
func apart(calls []api.Call) bool {
	for i := 1; i < len(calls); i++ {
		a, b := calls[i-1], calls[i]
		both := a.Op == api.OpSteal && b.Op == api.OpDequeTake
		if a.Point == b.Point && !both {
			return false
		}
	}
	return true
}
