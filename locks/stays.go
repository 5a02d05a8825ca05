package locks

import (
	"cmp"
	"slices"

	"reclaim/api"
)

// none stands for a move that there isn't: the end of a call that has not ended, or of a stay.
const none = -1

// Stays are the times for which threads held the lock, by their beginnings.
func Stays(c api.Locks, r api.Run) ([]api.Stay, api.Errno) {
	if e := Check(c); e != api.OK {
		return nil, e
	}
	return staysOf(r.Calls), api.OK
}

// exit is a call by which a thread gives back what it has.
type exit struct {
	thread int
	op     api.Op
}

// staysOf goes through the calls from the last one on, so that of each thread the next exit is known.
func staysOf(calls []api.Call) []api.Stay {
	var stays []api.Stay
	exits := map[exit]int{} // their beginnings
	for _, c := range slices.Backward(calls) {
		switch c.Op {
		case api.OpRelease, api.OpUnshare:
			exits[exit{c.Thread, c.Op}] = c.Begin
		case api.OpAcquire, api.OpShare:
			if c.End != none {
				stays = append(stays, stayOf(c, exits))
			}
		}
	}
	slices.Reverse(stays)
	slices.SortStableFunc(stays, func(a, b api.Stay) int { return cmp.Compare(a.From, b.From) })
	return stays
}

func stayOf(c api.Call, exits map[exit]int) api.Stay {
	s := api.Stay{Thread: c.Thread, Shared: c.Op == api.OpShare, From: c.End, To: none}
	way := exit{c.Thread, api.OpRelease}
	if s.Shared {
		way.op = api.OpUnshare
	}
	if begin, ok := exits[way]; ok {
		s.To = begin
	}
	return s
}
