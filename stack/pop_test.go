package stack_test

import (
	"testing"

	"reclaim/api"
)

// P6.2: pops take the values that were pushed last first; each Retire waits in the list.
func TestPopLastFirst(t *testing.T) {
	y := pair(t)
	y.calls(t, push(0, 1), push(1, 2), push(0, 3))
	from, shifts := y.accesses(), y.shifts()
	got := y.call(t, pop(1))
	if got.Answer != value(3) || got.Point != got.Begin+5 || got.End-got.Begin != 7 {
		t.Errorf("%+v", got)
	}
	hazard := y.addr(api.RegionHazard, 1, 0)
	y.wantSeen(t, from, load(1, 2, link(2)), store(1, hazard, link(2)), load(1, 2, link(2)),
		load(1, y.addr(api.RegionLink, 2, 0), link(1)), swap(1, 2, link(2), link(1), link(2)),
		load(1, y.addr(api.RegionValue, 2, 0), 3), store(1, hazard, 0))
	y.wantShifts(t, shifts, shift(1, 2, api.StateLinked, api.StateDetached), shift(1, 2, api.StateDetached, api.StateRetired))
	if s := y.m.Run().Shifts[shifts:]; s[0].Move != got.Point || s[1].Move != got.End {
		t.Errorf("%+v", s)
	}
	for _, want := range []api.Answer{value(2), value(1), empty, empty} {
		if got := y.call(t, pop(1)); got.Answer != want {
			t.Errorf("%+v, not %+v", got, want)
		}
	}
	y.wantList(t, 1, 2, 1, 0)
	y.wantState(t, 1, api.StateRetired, 1)
}

// P6.2: a pop of an empty stack that has named nothing: one load, which is the point; hazard 0 stays
// as a read has left it.
func TestPopEmpty(t *testing.T) {
	y := yardOf(t, configOf(1, 1, 9, 0, 3))
	y.calls(t, register(0), post(0, 4), read(0, 0))
	from := y.accesses()
	got := y.call(t, pop(0))
	if got.Answer != empty || got.Point != got.End || got.End-got.Begin != 1 {
		t.Errorf("%+v", got)
	}
	y.wantSeen(t, from, load(0, 2, 0))
	if w := y.word(y.Addr(0, 0)); w != link(0) {
		t.Errorf("hazard 0 is %x", w)
	}
}

// P6.2: between its loads Top changes to another slot: the hazard names that one ahead of the next
// load; what was named first is not looked at.
func TestPopOfAChangingTop(t *testing.T) {
	y := pair(t)
	y.call(t, push(0, 1))
	y.make(t, pop(1), step(1))
	y.call(t, push(0, 2))
	from := y.accesses()
	y.steps(t, 1, 2)
	y.call(t, pop(0))
	y.call(t, push(0, 3))
	changed := y.accesses()
	y.steps(t, 1, 2)
	hazard := y.addr(api.RegionHazard, 1, 0)
	if seen := y.m.Run().Trace[from : from+2]; seen[0].New != link(0) || seen[0].Addr != hazard || seen[1].Saw != link(1) {
		t.Errorf("%+v", seen)
	}
	y.wantSeen(t, changed, store(1, hazard, link(1)), load(1, 2, link(2)))
	if got := y.last(1); got.Point != -1 {
		t.Errorf("%+v", got)
	}
	from = y.accesses()
	y.finish(t, 1)
	y.wantSeen(t, from, store(1, hazard, link(2)), load(1, 2, link(2)), load(1, y.addr(api.RegionLink, 2, 0), link(0)),
		swap(1, 2, link(2), link(0), link(2)), load(1, y.addr(api.RegionValue, 2, 0), 3), store(1, hazard, 0))
	if got := y.last(1); got.Answer != value(3) || got.Point != got.End-2 {
		t.Errorf("%+v", got)
	}
	y.wantStack(t, 1)
}

// P6.2: between its loads Top changes to none: the point is that load's move, told from then on; one
// access more clears the hazard, though by then the stack holds something again.
func TestPopOfATopThatGoes(t *testing.T) {
	y := pair(t)
	y.call(t, push(0, 1))
	y.make(t, pop(1), step(1), step(1))
	y.call(t, pop(0))
	from := y.accesses()
	y.steps(t, 1, 1)
	saw := y.last(1)
	if saw.Point != y.m.Moves()-1 || saw.End != -1 || saw.Answer != (api.Answer{}) {
		t.Errorf("%+v", saw)
	}
	y.call(t, push(0, 2))
	last := y.accesses()
	y.steps(t, 1, 1)
	y.wantSeen(t, last, store(1, y.addr(api.RegionHazard, 1, 0), 0))
	if seen := y.m.Run().Trace[from]; seen.Kind != api.AccessLoad || seen.Addr != 2 || seen.Saw != 0 {
		t.Errorf("%+v", seen)
	}
	if got := y.last(1); got.Answer != empty || got.Point != saw.Point || got.End != y.m.Moves()-1 {
		t.Errorf("%+v", got)
	}
	y.wantStack(t, 2)
}

// P6.2: a pop whose swap is overtaken begins anew with the load of Top, and names the new one.
func TestPopOvertaken(t *testing.T) {
	y := pair(t)
	y.calls(t, push(0, 1), push(0, 2))
	y.make(t, pop(1))
	y.steps(t, 1, 4)
	y.call(t, push(0, 3))
	from, shifts := y.accesses(), y.shifts()
	y.steps(t, 1, 1)
	if got := y.last(1); got.Point != -1 || got.End != -1 {
		t.Errorf("%+v", got)
	}
	y.wantShifts(t, shifts)
	y.finish(t, 1)
	hazard := y.addr(api.RegionHazard, 1, 0)
	y.wantSeen(t, from, swap(1, 2, link(1), link(0), link(2)), load(1, 2, link(2)), store(1, hazard, link(2)), load(1, 2, link(2)),
		load(1, y.addr(api.RegionLink, 2, 0), link(1)), swap(1, 2, link(2), link(1), link(2)),
		load(1, y.addr(api.RegionValue, 2, 0), 3), store(1, hazard, 0))
	if got := y.last(1); got.Answer != value(3) {
		t.Errorf("%+v", got)
	}
	y.wantStack(t, 2, 1)
}

// P6.2: a pop whose swap is overtaken by the pop of the last one finds the stack empty by its first
// load, and clears the hazard that it stored ahead of that.
func TestPopOvertakenTillEmpty(t *testing.T) {
	y := pair(t)
	y.call(t, push(0, 1))
	y.make(t, pop(1))
	y.steps(t, 1, 4)
	y.call(t, pop(0))
	from := y.accesses()
	y.steps(t, 1, 3)
	y.wantSeen(t, from, swap(1, 2, link(0), 0, 0), load(1, 2, 0), store(1, y.addr(api.RegionHazard, 1, 0), 0))
	if got := y.last(1); got.Answer != empty || got.Point != got.End-1 || got.End != y.m.Moves()-1 {
		t.Errorf("%+v", got)
	}
}

// P6.2: a pop keeps the slot that it looks at from coming back: what another thread pops meanwhile
// stays in that one's list, and is given back by a scan behind the pop.
func TestPopKeepsItsSlot(t *testing.T) {
	y := yardOf(t, configOf(2, 2, 1, 0, 3))
	y.calls(t, register(0), register(1), push(0, 1), push(0, 2))
	y.make(t, pop(1))
	y.steps(t, 1, 4) // it has named slot 1, and loaded its link
	if got := y.call(t, pop(0)); got.Answer != value(2) {
		t.Errorf("%+v", got)
	}
	y.wantList(t, 0, 1)
	y.wantState(t, 1, api.StateRetired, 0)
	y.calls(t, pop(0), push(0, 3))
	y.wantState(t, 1, api.StateRetired, 0)
	y.wantStack(t, 3) // slot 0 or 2, not slot 1: the swap from slot 1 fails
	if got := y.call(t, push(0, 4)); got.Answer != done {
		t.Errorf("%+v", got)
	}
	y.finish(t, 1)
	if got := y.last(1); got.Answer != value(4) {
		t.Errorf("%+v", got)
	}
	y.call(t, scan(0))
	y.wantList(t, 0)
	y.wantState(t, 1, api.StateFree, -1)
	y.wantStack(t, 3)
}

// P6.2: a slot that another thread's read has named by a hazard of its own is kept likewise.
func TestPopOfASlotThatAHazardNames(t *testing.T) {
	y := yardOf(t, configOf(2, 2, 1, 0, 3))
	y.calls(t, register(0), register(1), push(0, 1))
	y.call(t, poked(1, y.Addr(1, 2), link(0)))
	if got := y.call(t, pop(0)); got.Answer != value(1) || got.End-got.Begin != 14 {
		t.Errorf("%+v", got)
	}
	y.wantList(t, 0, 0)
	y.wantState(t, 0, api.StateRetired, 0)
}

// P6.2: a scan behind a pop gives back all that waited in the list.
func TestPopThatScans(t *testing.T) {
	y := yardOf(t, configOf(1, 1, 3, 1, 4))
	y.calls(t, register(0), push(0, 1), push(0, 2), push(0, 3), pop(0), pop(0))
	y.wantList(t, 0, 2, 1)
	shifts := y.shifts()
	got := y.call(t, pop(0))
	// 7 accesses of its own, 3 hazards; slot 2 goes into the cache, slots 1 and 0 cost 3 accesses each.
	if got.Answer != value(1) || got.End-got.Begin != 16 || got.Point != got.Begin+5 {
		t.Errorf("%+v", got)
	}
	y.wantShifts(t, shifts, shift(0, 0, api.StateLinked, api.StateDetached), shift(0, 0, api.StateDetached, api.StateRetired),
		shift(0, 2, api.StateRetired, api.StateCached), shift(0, 1, api.StateRetired, api.StateFree),
		shift(0, 0, api.StateRetired, api.StateFree))
	y.wantList(t, 0)
}

// P6.2: the answer is what the load of Value saw, though the slot is given back, and in use again,
// ahead of the call's end: its scan has a slot behind it that another thread has left.
func TestPopAnswersWhatItSaw(t *testing.T) {
	y := yardOf(t, configOf(3, 3, 1, 0, 2))
	y.calls(t, register(0), register(1), register(2), push(0, 1), push(0, 2))
	y.calls(t, poked(2, y.Addr(2, 1), link(1)), pop(1), unregister(1), clearing(2, 1))
	y.wantList(t, 1, 1)
	y.make(t, pop(0))
	for s := api.StateLinked; s != api.StateFree; s, _, _ = y.a.State(0) {
		y.steps(t, 0, 1)
	}
	if !y.m.Busy(0) {
		t.Fatal("the pop has ended")
	}
	y.call(t, push(2, 9))
	y.wantState(t, 0, api.StateLinked, -1)
	y.finish(t, 0)
	if got := y.last(0); got.Answer != value(1) {
		t.Errorf("%+v", got)
	}
	y.wantStack(t, 9)
}
