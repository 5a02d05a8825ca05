package census

import (
	"slices"

	"reclaim/api"
	"reclaim/word"
)

// Faults are the run's faults.
func Faults(c api.Config, used int, r api.Run) ([]api.Fault, api.Errno) {
	s, e := read(c, used, r)
	if e != api.OK {
		return nil, e
	}
	f := &finder{story: s, slots: slotsOf(c, used), left: slices.Repeat([]int{never}, c.Slots)}
	table{
		opens:    {f.open},
		accesses: {f.touch, f.name},
		shifts:   {f.change, f.give, f.leave, s.turning(f.slots)},
		closes:   {f.close},
	}.watch(s.events)
	return f.faults, api.OK
}

// hazard is what a hazard word is, and the move in which it was written last.
type hazard struct {
	word  uint64
	since int
}

// finder gathers a run's faults.
type finder struct {
	story
	slots   *slots
	hazards [api.MaxRecords * api.MaxHazards]hazard
	left    []int     // of each slot, the last move in which it went from Linked; never: none
	touched api.Fault // of the move's access, if the states ahead of the move don't allow it; its kind is 0 if they do
	first   int       // the number of the move's first fault
	faults  []api.Fault
}

func (f *finder) found(kind api.FaultKind, x api.Shift) {
	f.faults = append(f.faults, api.Fault{Kind: kind, Move: x.Move, Slot: x.Slot})
}

func (f *finder) open(event) bool {
	f.touched, f.first = api.Fault{}, len(f.faults)
	return true
}

// touch looks at an access by the states ahead of its move.
func (f *finder) touch(e event) bool {
	place, _ := word.At(f.c, f.run.Trace[e.number].Addr)
	if !inside(place.Region) || f.slots.reached(place.I, e.thread) {
		return true
	}
	f.touched = api.Fault{Kind: api.FaultFree, Move: e.move, Slot: place.I}
	if f.slots.states[place.I] == api.StateOwned {
		f.touched.Kind = api.FaultForeign
	}
	return true
}

// inside tells whether a region's words are those of a slot that only those may access who reach it.
func inside(r api.Region) bool {
	return r == api.RegionValue || r == api.RegionData || r == api.RegionLink
}

// close looks at the move's access by the states behind it. Its fault comes ahead of the shifts'.
func (f *finder) close(e event) bool {
	if f.touched.Kind != 0 && !f.slots.reached(f.touched.Slot, e.thread) {
		f.faults = slices.Insert(f.faults, f.first, f.touched)
	}
	return true
}

// name keeps what is written to hazards.
func (f *finder) name(e event) bool {
	a := f.run.Trace[e.number]
	if place, _ := word.At(f.c, a.Addr); place.Region == api.RegionHazard && writes(a) {
		f.hazards[place.I*f.c.Hazards+place.K] = hazard{a.New, e.move}
	}
	return true
}

// change looks whether a shift is one that may be made.
func (f *finder) change(e event) bool {
	x := f.run.Shifts[e.number]
	if !turns(x.From, x.To) || owned(x.From) && f.slots.holders[x.Slot] != x.Thread {
		f.found(api.FaultShift, x)
	}
	return true
}

// turns tells whether a slot may go from one state to another.
func turns(from, to api.State) bool {
	may := [states][states]bool{
		api.StateFree:     {api.StateOwned: true},
		api.StateCached:   {api.StateOwned: true, api.StateFree: true},
		api.StateOwned:    {api.StateLinked: true, api.StateCached: true, api.StateFree: true},
		api.StateLinked:   {api.StateDetached: true},
		api.StateDetached: {api.StateRetired: true},
		api.StateRetired:  {api.StateCached: true, api.StateFree: true},
	}
	return may[from][to]
}

// owned tells whether a slot goes from a state by its holder alone. A slot that is retired goes with its record's
// list, so another thread than the one that retired it may give it back.
func owned(from api.State) bool {
	return from == api.StateCached || from == api.StateOwned || from == api.StateDetached
}

// give looks whether a slot is given back from a list that a hazard holds.
func (f *finder) give(e event) bool {
	x := f.run.Shifts[e.number]
	if x.From == api.StateRetired && (x.To == api.StateCached || x.To == api.StateFree) && f.held(x.Slot) {
		f.found(api.FaultHazard, x)
	}
	return true
}

// held tells whether a hazard holds a slot that isn't Linked. It was Linked last when it went from there, and if the
// hazard was written in that move or ahead of it, it has been Linked since.
func (f *finder) held(slot int) bool {
	link, _ := word.Link(slot, false)
	for _, h := range f.hazards {
		if h.word == link && h.since <= f.left[slot] {
			return true
		}
	}
	return false
}

func (f *finder) leave(e event) bool {
	if x := f.run.Shifts[e.number]; x.From == api.StateLinked {
		f.left[x.Slot] = e.move
	}
	return true
}
