package census

import "reclaim/api"

// states is how many states there are.
const states = int(api.StateRetired) + 1

// nobody is the holder of a slot that is with no thread.
const nobody = -1

// slots is the state and the holder of each slot at a time.
type slots struct {
	states  []api.State
	holders []int
	counts  [states]int         // of each state, the slots that are in it
	cached  [api.MaxThreads]int // of each thread, the slots that are in its cache
}

// slotsOf is the slots at the beginning.
func slotsOf(c api.Config, used int) *slots {
	s := &slots{states: make([]api.State, c.Slots), holders: make([]int, c.Slots)}
	for i := range c.Slots {
		s.holders[i] = nobody
		if i < used {
			s.states[i] = api.StateLinked
		}
	}
	s.counts[api.StateLinked] = used
	s.counts[api.StateFree] = c.Slots - used
	return s
}

// turn makes a shift, of a slot and to a state that there are, by a thread that there is.
func (s *slots) turn(x api.Shift) {
	s.note(x.Slot, -1)
	s.states[x.Slot], s.holders[x.Slot] = x.To, x.Thread
	if x.To == api.StateFree || x.To == api.StateLinked {
		s.holders[x.Slot] = nobody
	}
	s.note(x.Slot, 1)
}

// note counts a slot where it is.
func (s *slots) note(slot, by int) {
	s.counts[s.states[slot]] += by
	if s.states[slot] == api.StateCached {
		s.cached[s.holders[slot]] += by
	}
}

// reached tells whether a thread may access the value, data and link of a slot.
func (s *slots) reached(slot, thread int) bool {
	switch s.states[slot] {
	case api.StateLinked, api.StateDetached, api.StateRetired:
		return true
	case api.StateOwned:
		return s.holders[slot] == thread
	}
	return false
}

// States are the slots' states ahead of a move, and their holders (-1: none).
func States(c api.Config, used int, r api.Run, moves int) ([]api.State, []int, api.Errno) {
	s, e := read(c, used, r)
	if e != api.OK {
		return nil, nil, e
	}
	if moves < 0 {
		return nil, nil, api.ErrRange
	}
	all := slotsOf(c, used)
	table{
		opens:  {func(e event) bool { return e.move < moves }},
		shifts: {s.turning(all)},
	}.watch(s.events)
	return all.states, all.holders, api.OK
}

// turning is the monitor that makes the shifts.
func (s story) turning(all *slots) monitor {
	return func(e event) bool {
		all.turn(s.run.Shifts[e.number])
		return true
	}
}
