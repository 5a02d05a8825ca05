package tso

import (
	"slices"

	"reclaim/api"
)

// search is all states that a program can come to under an order, breadth first. A state's turns are tried from the
// least to the greatest, so that the way by which a state was first come to is the least of the shortest ones.
type search struct {
	*runner
	numbers map[state]int
	states  []state // by their numbers
	steps   []step  // likewise
}

// step is how a state was first come to.
type step struct {
	from int
	turn api.Turn
}

// explore comes to all states there are; ErrStates, if they are too many.
func explore(l api.Litmus, o api.Order) (*search, api.Errno) {
	if e := checkBoth(l, o); e != api.OK {
		return nil, e
	}
	f := &search{runner: newRunner(l, o), numbers: map[state]int{}}
	f.meet(first(l), step{from: -1})
	turns := f.turns()
	var s state // once, and not for each turn: it is large
	for n := 0; n < len(f.states); n++ {
		for _, t := range turns {
			s = f.states[n]
			if !f.turn(&s, t) {
				continue
			}
			f.meet(s, step{n, t})
			if len(f.states) > api.MaxStates {
				return nil, api.ErrStates
			}
		}
	}
	return f, api.OK
}

// meet gives a state its number, if it has none yet.
func (f *search) meet(s state, by step) {
	if _, met := f.numbers[s]; met {
		return
	}
	f.numbers[s] = len(f.states)
	f.states = append(f.states, s)
	f.steps = append(f.steps, by)
}

// turns is all turns in which something may happen, the least first.
func (f *search) turns() []api.Turn {
	var out []api.Turn
	for i := range f.program.Threads {
		out = append(out, api.Turn{Thread: i})
		switch f.order {
		case api.OrderTSO:
			out = append(out, api.Turn{Thread: i, Out: true})
		case api.OrderPSO:
			for addr := range f.program.Words {
				out = append(out, api.Turn{Thread: i, Out: true, Addr: addr})
			}
		}
	}
	return out
}

// ended is the first state, but that all threads have ended: a final state differs from it in what it leaves alone.
func (f *search) ended() state {
	s := first(f.program)
	for i, code := range f.program.Threads {
		*s.place(i) = len(code)
	}
	return s
}

// finals is what the final states leave, in order.
func (f *search) finals() []api.Final {
	end := f.ended()
	var all []state
	for _, s := range f.states {
		if slices.Equal(s[placesAt:], end[placesAt:]) {
			all = append(all, s)
		}
	}
	slices.SortFunc(all, func(a, b state) int { return slices.Compare(a[:placesAt], b[:placesAt]) })
	out := make([]api.Final, len(all))
	for i, s := range all {
		out[i] = s.left(f.program)
	}
	return out
}

// numberOf is the number of the final state that leaves this; false: none does.
func (f *search) numberOf(left api.Final) (int, bool) {
	s := f.ended()
	if len(left.Words) != len(f.program.Words) || len(left.Regs) != len(f.program.Threads) {
		return 0, false
	}
	copy(s.words(), left.Words)
	for i, regs := range left.Regs {
		copy(s.regs(i), regs[:])
	}
	n, met := f.numbers[s]
	return n, met
}

// way is the turns by which a state was come to.
func (f *search) way(n int) []api.Turn {
	var out []api.Turn
	for ; f.steps[n].from >= 0; n = f.steps[n].from {
		out = append(out, f.steps[n].turn)
	}
	slices.Reverse(out)
	return out
}
