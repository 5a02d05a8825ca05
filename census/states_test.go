package census_test

import (
	"testing"

	"reclaim/api"
)

// P13.2: ahead of the first move, between moves, in whose midst nothing is told, and behind all.
func TestStates(t *testing.T) {
	x := meeting()
	const free, cached, owned, linked, retired = api.StateFree, api.StateCached, api.StateOwned, api.StateLinked, api.StateRetired
	for _, want := range []struct {
		from, to int // the moves ahead of which it is so
		states   []api.State
		holders  []int
	}{
		{0, 22, []api.State{linked, free, free, free}, []int{-1, -1, -1, -1}},
		{23, 32, []api.State{linked, owned, free, free}, []int{-1, 1, -1, -1}},
		{33, 40, []api.State{retired, owned, free, free}, []int{0, 1, -1, -1}},
		{41, 48, []api.State{retired, owned, owned, cached}, []int{0, 1, 0, 0}},
		{49, 60, []api.State{retired, owned, owned, cached}, []int{0, 1, 2, 0}},
		{greatest - 1, greatest, []api.State{retired, owned, owned, cached}, []int{0, 1, 2, 0}},
	} {
		for moves := want.from; moves <= want.to && moves >= want.from; moves++ {
			x.wantStates(t, moves, want.states, want.holders)
		}
	}
}

// P13.2: the holder of a slot in each state, behind each shift.
func TestHolders(t *testing.T) {
	x := taleOf(configOf(3, 1, 3, 1, 1, 2, 1), 1, open(0, api.OpPush, 0), open(2, api.OpPush, 1))
	move := 2
	for _, thread := range []int{2, 0} {
		for from := range 6 {
			for to := range 6 {
				x.shift(move, 2-thread, 1, api.State(from))
				x.shift(move+1, thread, 1, api.State(to))
				holder := thread
				if to == int(api.StateFree) || to == int(api.StateLinked) {
					holder = -1
				}
				x.wantStates(t, move+2, []api.State{api.StateLinked, api.State(to)}, []int{-1, holder})
				move += 2
			}
		}
	}
}

// P13.2: of a run without shifts, with any used.
func TestStatesFirst(t *testing.T) {
	for used := range 4 {
		x := taleOf(small(), used)
		states, holders := make([]api.State, 3), []int{-1, -1, -1}
		for i := range used {
			states[i] = api.StateLinked
		}
		for _, moves := range []int{0, 1, 7, greatest} {
			x.wantStates(t, moves, states, holders)
		}
	}
}

// P13.2: the last shift of all, at the greatest move, is ahead of no move.
func TestStatesAtTheEdge(t *testing.T) {
	x := taleOf(tiny(), 0, open(0, api.OpPush, 0)).shift(greatest-1, 0, 0, api.StateOwned).shift(greatest, 0, 1, api.StateOwned)
	x.wantStates(t, greatest-1, []api.State{0, 0}, []int{-1, -1})
	x.wantStates(t, greatest, []api.State{api.StateOwned, 0}, []int{0, -1})
}
