package mcas

import "reclaim/api"

// moment is a call with the move at which it was made, as if at once.
type moment struct {
	call api.Call
	at   int
}

// momentsOf are the moments of the calls that have one.
func momentsOf(c api.Multi, r api.Run) []moment {
	l := layoutOf(c)
	begun := make([]int, c.Threads)
	won := wonOf(r.Trace)
	var list []moment
	for _, call := range r.Calls {
		at, ok := call.Point, call.Point != none
		if call.Op == api.OpMulti {
			d := l.descriptor(call.Thread, begun[call.Thread])
			begun[call.Thread]++
			if call.End == none && !ok {
				at, ok = won[l.status(d)]
			}
		}
		if ok {
			list = append(list, moment{call: call, at: at})
		}
	}
	return list
}

// wonOf are the moves at which words were first swapped as the status of a descriptor is that has succeeded, by
// the words' addresses. A swap that is decided so has been made, though its call may not have ended.
func wonOf(trace []api.Access) map[int]int {
	won := map[int]int{}
	for _, a := range trace {
		if a.Kind != api.AccessSwap || a.Old != undecided || a.Saw != undecided || a.New != succeeded {
			continue
		}
		if _, ok := won[a.Addr]; !ok {
			won[a.Addr] = a.Move
		}
	}
	return won
}

// untimely tells whether a moment lies out of its call.
func (m moment) untimely() bool {
	return m.at <= m.call.Begin || m.call.End != none && m.at > m.call.End
}
