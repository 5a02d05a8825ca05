package queue_test

import (
	"math"
	"testing"

	"reclaim/api"
)

// Lines 1 to 9: an enqueue behind others.
func TestEnqueueBehindOthers(t *testing.T) {
	y := pair(t)
	y.calls(t, enqueue(0, 1), enqueue(1, 2))
	from, shifts := y.accesses(), y.shifts()
	got := y.call(t, enqueue(0, 3))
	if got.Answer != done || got.Point != got.Begin+10 || got.End != got.Begin+12 {
		t.Errorf("%+v", got)
	}
	y.wantSeen(t, from, load(0, freeAddr, head(2, 3)), load(0, y.addr(api.RegionSpare, 3, 0), link(4)),
		swap(0, freeAddr, head(2, 3), head(3, 4), head(2, 3)),
		store(0, y.valueAt(3), 3), store(0, y.linkAt(3), 0),
		load(0, tailAddr, link(2)), store(0, y.hazardAt(0, 0), link(2)), load(0, tailAddr, link(2)), load(0, y.linkAt(2), 0),
		swap(0, y.linkAt(2), 0, link(3), 0), swap(0, tailAddr, link(2), link(3), link(2)), store(0, y.hazardAt(0, 0), 0))
	y.wantShifts(t, shifts, shift(0, 3, api.StateFree, api.StateOwned), shift(0, 3, api.StateOwned, api.StateLinked))
	if s := y.m.Run().Shifts[shifts:]; s[0].Move != got.Begin+3 || s[1].Move != got.Point {
		t.Errorf("%+v", s)
	}
	y.wantQueue(t, 1, 2, 3)
	y.wantEnds(t, 0, 3)
	y.wantState(t, 3, api.StateLinked, -1)
}

// The point of an enqueue stands from the swap of the link on; its answer is told at its end alone.
func TestEnqueueHasItsPointAheadOfItsEnd(t *testing.T) {
	y := pair(t)
	y.make(t, enqueue(0, 1))
	y.steps(t, 0, 9)
	y.wantOnWay(t, 0)
	y.wantState(t, 1, api.StateOwned, 0)
	for range 2 {
		y.steps(t, 0, 1)
		if got := y.last(0); got.Point != got.Begin+10 || got.End != -1 || got.Answer != (api.Answer{}) {
			t.Errorf("%+v", got)
		}
		y.wantState(t, 1, api.StateLinked, -1)
		y.wantQueue(t, 1)
	}
	y.steps(t, 0, 1)
	y.wantAnswer(t, 0, done)
}

// A slot out of the cache costs no access, and goes to Owned in the move of the first one.
func TestEnqueueFromCache(t *testing.T) {
	y := yardOf(t, configOf(1, 1, 1, 2, 3))
	y.calls(t, register(0), enqueue(0, 1), enqueue(0, 2), dequeue(0), dequeue(0))
	y.wantState(t, 1, api.StateCached, 0)
	from, shifts := y.accesses(), y.shifts()
	got := y.call(t, enqueue(0, -7))
	if got.Answer != done || got.Point != got.Begin+7 || got.End != got.Begin+9 {
		t.Errorf("%+v", got)
	}
	y.wantSeen(t, from, store(0, y.valueAt(1), math.MaxUint64-6), store(0, y.linkAt(1), 0),
		load(0, tailAddr, link(2)), store(0, y.hazardAt(0, 0), link(2)), load(0, tailAddr, link(2)), load(0, y.linkAt(2), 0),
		swap(0, y.linkAt(2), 0, link(1), 0), swap(0, tailAddr, link(2), link(1), link(2)), store(0, y.hazardAt(0, 0), 0))
	y.wantShifts(t, shifts, shift(0, 1, api.StateCached, api.StateOwned), shift(0, 1, api.StateOwned, api.StateLinked))
	if s := y.m.Run().Shifts[shifts:]; s[0].Move != got.Begin+1 || s[1].Move != got.Point {
		t.Errorf("%+v", s)
	}
	y.wantState(t, 0, api.StateCached, 0)
	y.wantQueue(t, -7)
}

// With no slot left: Full; its point is the move of the load that saw none; nothing is put in.
func TestEnqueueFull(t *testing.T) {
	y := yardOf(t, configOf(2, 2, 9, 0, 2))
	y.calls(t, register(0), register(1), enqueue(0, 1))
	for range 2 {
		from, shifts := y.accesses(), y.shifts()
		got := y.call(t, enqueue(1, 3))
		if got.Answer != full || got.Point != got.End || got.End != got.Begin+1 {
			t.Errorf("%+v", got)
		}
		y.wantSeen(t, from, load(1, freeAddr, head(1, -1)))
		y.wantShifts(t, shifts)
		y.wantQueue(t, 1)
	}
	y.call(t, dequeue(0)) // the slot that was the dummy waits in a retired list
	if got := y.call(t, enqueue(1, 3)); got.Answer != full {
		t.Errorf("%+v", got)
	}
	y.wantQueue(t)
}

// The dummy alone leaves no room.
func TestEnqueueFullOfTheDummy(t *testing.T) {
	y := yardOf(t, configOf(1, 1, 1, 0, 1))
	y.calls(t, register(0), enqueue(0, 1))
	y.wantAnswer(t, 0, full)
	y.call(t, dequeue(0))
	y.wantAnswer(t, 0, empty)
}

// An enqueue that finds no slot only behind a swap of Free that failed.
func TestEnqueueFullOvertaken(t *testing.T) {
	y := yardOf(t, configOf(2, 2, 9, 0, 2))
	y.calls(t, register(0), register(1))
	y.make(t, enqueue(1, 2), step(1), step(1), enqueue(0, 1), step(0), step(0), step(0))
	y.steps(t, 1, 1)
	y.wantOnWay(t, 1)
	y.steps(t, 1, 1)
	if got := y.last(1); got.Answer != full || got.Point != got.End || got.End < 0 {
		t.Errorf("%+v", got)
	}
	y.finish(t, 0)
	y.wantQueue(t, 1)
}

// Line 5: between its loads Tail changes: the hazard names the new one ahead of the next load, as
// often as it changes; the slots that were named ahead of that are not looked at.
func TestEnqueueOfAChangingTail(t *testing.T) {
	y := pair(t)
	y.make(t, enqueue(1, 2))
	y.steps(t, 1, 6) // it has loaded Tail
	y.call(t, enqueue(0, 1))
	from := y.accesses()
	y.steps(t, 1, 2)
	hazard := y.hazardAt(1, 0)
	y.wantSeen(t, from, store(1, hazard, link(0)), load(1, tailAddr, link(2)))
	y.call(t, enqueue(0, 3))
	from = y.accesses()
	y.steps(t, 1, 2)
	y.wantOnWay(t, 1)
	y.finish(t, 1)
	y.wantSeen(t, from, store(1, hazard, link(2)), load(1, tailAddr, link(3)),
		store(1, hazard, link(3)), load(1, tailAddr, link(3)), load(1, y.linkAt(3), 0),
		swap(1, y.linkAt(3), 0, link(1), 0), swap(1, tailAddr, link(3), link(1), link(3)), store(1, hazard, 0))
	y.wantAnswer(t, 1, done)
	y.wantQueue(t, 1, 3, 2)
	y.wantEnds(t, 0, 1)
}

// Line 10: Tail is found behind, and helped on; line 8: the swap of the call that was helped comes too
// late, and the call goes on to its end.
func TestEnqueueHelps(t *testing.T) {
	y := pair(t)
	y.make(t, enqueue(0, 1))
	y.steps(t, 0, 10) // its slot is put in, and Tail is behind
	y.wantEnds(t, 0, 0)
	y.make(t, enqueue(1, 2))
	y.steps(t, 1, 5)
	from, shifts := y.accesses(), y.shifts()
	y.steps(t, 1, 5)
	hazard := y.hazardAt(1, 0)
	y.wantSeen(t, from, load(1, tailAddr, link(0)), store(1, hazard, link(0)), load(1, tailAddr, link(0)),
		load(1, y.linkAt(0), link(1)), swap(1, tailAddr, link(0), link(1), link(0)))
	y.wantOnWay(t, 1)
	y.wantShifts(t, shifts)
	y.wantEnds(t, 0, 1)
	from = y.accesses()
	y.finish(t, 1)
	y.wantSeen(t, from, load(1, tailAddr, link(1)), store(1, hazard, link(1)), load(1, tailAddr, link(1)), load(1, y.linkAt(1), 0),
		swap(1, y.linkAt(1), 0, link(2), 0), swap(1, tailAddr, link(1), link(2), link(1)), store(1, hazard, 0))
	y.wantAnswer(t, 1, done)
	from = y.accesses()
	y.finish(t, 0)
	y.wantSeen(t, from, swap(0, tailAddr, link(0), link(1), link(2)), store(0, y.hazardAt(0, 0), 0))
	y.wantAnswer(t, 0, done)
	y.wantQueue(t, 1, 2)
	y.wantEnds(t, 0, 2)
}

// Line 10: the help comes too late, as the call itself has swapped Tail; it goes on with the load of
// Tail all the same.
func TestEnqueueHelpsTooLate(t *testing.T) {
	y := pair(t)
	y.make(t, enqueue(0, 1))
	y.steps(t, 0, 10)
	y.make(t, enqueue(1, 2))
	y.steps(t, 1, 9) // it has found Tail behind
	y.steps(t, 0, 1)
	y.wantEnds(t, 0, 1)
	from := y.accesses()
	y.finish(t, 1)
	hazard := y.hazardAt(1, 0)
	y.wantSeen(t, from, swap(1, tailAddr, link(0), link(1), link(1)), load(1, tailAddr, link(1)), store(1, hazard, link(1)),
		load(1, tailAddr, link(1)), load(1, y.linkAt(1), 0),
		swap(1, y.linkAt(1), 0, link(2), 0), swap(1, tailAddr, link(1), link(2), link(1)), store(1, hazard, 0))
	y.finish(t, 0)
	y.wantAnswer(t, 0, done)
	y.wantAnswer(t, 1, done)
	y.wantQueue(t, 1, 2)
}

// Line 7: the swap of the link is overtaken: the call begins anew with the load of Tail; value and
// link of its slot are not stored again.
func TestEnqueueOvertaken(t *testing.T) {
	y := pair(t)
	y.make(t, enqueue(1, 2))
	y.steps(t, 1, 9) // it has seen nothing behind slot 0
	y.call(t, enqueue(0, 1))
	from, shifts := y.accesses(), y.shifts()
	y.steps(t, 1, 1)
	y.wantOnWay(t, 1)
	y.wantShifts(t, shifts)
	y.wantState(t, 1, api.StateOwned, 1)
	y.finish(t, 1)
	hazard := y.hazardAt(1, 0)
	y.wantSeen(t, from, swap(1, y.linkAt(0), 0, link(1), link(2)), load(1, tailAddr, link(2)), store(1, hazard, link(2)),
		load(1, tailAddr, link(2)), load(1, y.linkAt(2), 0),
		swap(1, y.linkAt(2), 0, link(1), 0), swap(1, tailAddr, link(2), link(1), link(2)), store(1, hazard, 0))
	y.wantShifts(t, shifts, shift(1, 1, api.StateOwned, api.StateLinked))
	if got := y.last(1); got.Answer != done || got.Point != got.End-2 {
		t.Errorf("%+v", got)
	}
	y.wantQueue(t, 1, 2)
}

// Line 7: it is overtaken by a call that has not swapped Tail yet: Tail is found behind then.
func TestEnqueueOvertakenWithTailBehind(t *testing.T) {
	y := pair(t)
	y.make(t, enqueue(1, 2), enqueue(0, 1))
	y.steps(t, 1, 9)
	y.steps(t, 0, 10)
	from := y.accesses()
	y.finish(t, 1)
	hazard := y.hazardAt(1, 0)
	y.wantSeen(t, from, swap(1, y.linkAt(0), 0, link(1), link(2)), load(1, tailAddr, link(0)), store(1, hazard, link(0)),
		load(1, tailAddr, link(0)), load(1, y.linkAt(0), link(2)), swap(1, tailAddr, link(0), link(2), link(0)),
		load(1, tailAddr, link(2)), store(1, hazard, link(2)), load(1, tailAddr, link(2)), load(1, y.linkAt(2), 0),
		swap(1, y.linkAt(2), 0, link(1), 0), swap(1, tailAddr, link(2), link(1), link(2)), store(1, hazard, 0))
	y.finish(t, 0)
	y.wantQueue(t, 1, 2)
	y.wantEnds(t, 0, 1)
}

// Lines 7 to 9: the slot is taken out ahead of the call's own swap of Tail, which fails then: Tail
// names what it was helped on to, and what was put in behind that.
func TestEnqueueTakenOutAheadOfItsEnd(t *testing.T) {
	y := pair(t)
	y.make(t, enqueue(0, 1))
	y.steps(t, 0, 10)
	y.calls(t, dequeue(1), enqueue(1, 2), dequeue(1))
	y.wantAnswer(t, 1, value(2))
	y.wantState(t, 1, api.StateRetired, 1)
	from := y.accesses()
	y.finish(t, 0)
	y.wantSeen(t, from, swap(0, tailAddr, link(0), link(1), link(2)), store(0, y.hazardAt(0, 0), 0))
	y.wantAnswer(t, 0, done)
	y.wantQueue(t)
	y.wantEnds(t, 2, 2)
}

// Line 4: what an enqueue has named doesn't come back, so Tail can't be the same word with another
// slot's meaning.
func TestEnqueueKeepsItsSlot(t *testing.T) {
	y := yardOf(t, configOf(2, 2, 1, 0, 4))
	y.calls(t, register(0), register(1))
	y.make(t, enqueue(1, 9))
	y.steps(t, 1, 9) // it has named slot 0, the last one, and seen nothing behind it
	y.calls(t, enqueue(0, 1), dequeue(0))
	y.wantList(t, 0, 0)
	y.wantState(t, 0, api.StateRetired, 0)
	y.calls(t, enqueue(0, 2), dequeue(0), enqueue(0, 3))
	y.wantState(t, 0, api.StateRetired, 0)
	y.finish(t, 1)
	y.wantAnswer(t, 1, done)
	y.wantQueue(t, 3, 9)
	y.call(t, scan(0))
	y.wantState(t, 0, api.StateFree, -1)
}

// P4: any int is a value, and comes back.
func TestAnyValue(t *testing.T) {
	y := yardOf(t, example())
	y.call(t, register(0))
	for _, v := range []int{0, 1, -1, math.MaxInt, math.MinInt, 1 << 32, -1 << 32} {
		y.call(t, enqueue(0, v))
		y.wantQueue(t, v)
		if got := y.call(t, dequeue(0)); got.Answer != value(v) {
			t.Errorf("%+v, not %d", got, v)
		}
	}
}
