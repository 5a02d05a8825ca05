package queue_test

import (
	"testing"

	"reclaim/api"
)

// Dequeues take the values that were put in first first; the slots that were the dummy wait in the
// list.
func TestDequeueFirstFirst(t *testing.T) {
	y := pair(t)
	y.calls(t, enqueue(0, 1), enqueue(1, 2), enqueue(0, 3))
	from, shifts := y.accesses(), y.shifts()
	got := y.call(t, dequeue(1))
	if got.Answer != value(1) || got.Point != got.Begin+9 || got.End != got.Begin+11 {
		t.Errorf("%+v", got)
	}
	zero, one := y.hazardAt(1, 0), y.hazardAt(1, 1)
	y.wantSeen(t, from, load(1, headAddr, link(0)), store(1, zero, link(0)), load(1, headAddr, link(0)), load(1, tailAddr, link(3)),
		load(1, y.linkAt(0), link(1)), store(1, one, link(1)), load(1, headAddr, link(0)), load(1, y.valueAt(1), 1),
		swap(1, headAddr, link(0), link(1), link(0)), store(1, zero, 0), store(1, one, 0))
	y.wantShifts(t, shifts, shift(1, 0, api.StateLinked, api.StateDetached), shift(1, 0, api.StateDetached, api.StateRetired))
	if s := y.m.Run().Shifts[shifts:]; s[0].Move != got.Point || s[1].Move != got.End {
		t.Errorf("%+v", s)
	}
	y.wantQueue(t, 2, 3)
	for _, want := range []api.Answer{value(2), value(3), empty, empty} {
		if got := y.call(t, dequeue(1)); got.Answer != want {
			t.Errorf("%+v, not %+v", got, want)
		}
	}
	y.wantList(t, 1, 0, 1, 2)
	y.wantState(t, 1, api.StateRetired, 1)
	y.wantState(t, 3, api.StateLinked, -1)
	y.wantEnds(t, 3, 3)
}

// The point of a dequeue stands from the swap of Head on; its answer is told at its end alone.
func TestDequeueHasItsPointAheadOfItsEnd(t *testing.T) {
	y := pair(t)
	y.call(t, enqueue(0, 1))
	y.make(t, dequeue(0))
	y.steps(t, 0, 8)
	y.wantOnWay(t, 0)
	for range 2 {
		y.steps(t, 0, 1)
		if got := y.last(0); got.Point != got.Begin+9 || got.End != -1 || got.Answer != (api.Answer{}) {
			t.Errorf("%+v", got)
		}
		y.wantState(t, 0, api.StateDetached, 0)
		y.wantList(t, 0)
	}
	y.steps(t, 0, 1)
	y.wantAnswer(t, 0, value(1))
	y.wantState(t, 0, api.StateRetired, 0)
}

// An empty queue: the load of the link is the point, told from then on; two accesses more clear both
// hazards, also the one that the call has not stored, though by then the queue holds something.
func TestDequeueEmpty(t *testing.T) {
	y := pair(t)
	y.calls(t, post(0, 4), read(1, 0), read(1, 1), read(1, 2))
	y.make(t, dequeue(1))
	from, shifts := y.accesses(), y.shifts()
	y.steps(t, 1, 5)
	zero, one := y.hazardAt(1, 0), y.hazardAt(1, 1)
	y.wantSeen(t, from, load(1, headAddr, link(0)), store(1, zero, link(0)), load(1, headAddr, link(0)), load(1, tailAddr, link(0)),
		load(1, y.linkAt(0), 0))
	saw := y.last(1)
	if saw.Point != y.m.Moves()-1 || saw.End != -1 || saw.Answer != (api.Answer{}) {
		t.Errorf("%+v", saw)
	}
	y.call(t, enqueue(0, 2))
	from = y.accesses()
	y.steps(t, 1, 2)
	y.wantSeen(t, from, store(1, zero, 0), store(1, one, 0))
	if got := y.last(1); got.Answer != empty || got.Point != saw.Point || got.End != y.m.Moves()-1 {
		t.Errorf("%+v", got)
	}
	if w := y.word(y.hazardAt(1, 2)); w != link(1) {
		t.Errorf("hazard 2 is %x", w)
	}
	y.wantShifts(t, shifts, shift(0, 2, api.StateFree, api.StateOwned), shift(0, 2, api.StateOwned, api.StateLinked))
	y.wantQueue(t, 2)
}

// Line 3: between its loads Head changes: hazard 0 names the new one ahead of the next load, as often
// as it changes; what was named first is not looked at.
func TestDequeueOfAChangingHead(t *testing.T) {
	y := pair(t)
	y.calls(t, enqueue(0, 1), enqueue(0, 2), enqueue(0, 3))
	y.make(t, dequeue(1), step(1))
	y.call(t, dequeue(0))
	from := y.accesses()
	y.steps(t, 1, 2)
	zero, one := y.hazardAt(1, 0), y.hazardAt(1, 1)
	y.wantSeen(t, from, store(1, zero, link(0)), load(1, headAddr, link(1)))
	y.call(t, dequeue(0))
	from = y.accesses()
	y.finish(t, 1)
	y.wantSeen(t, from, store(1, zero, link(1)), load(1, headAddr, link(2)), store(1, zero, link(2)), load(1, headAddr, link(2)),
		load(1, tailAddr, link(3)), load(1, y.linkAt(2), link(3)), store(1, one, link(3)), load(1, headAddr, link(2)),
		load(1, y.valueAt(3), 3), swap(1, headAddr, link(2), link(3), link(2)), store(1, zero, 0), store(1, one, 0))
	y.wantAnswer(t, 1, value(3))
	y.wantQueue(t)
}

// Line 7: Head changes behind the load of the link: hazard 0 names the new one, and Tail and the link
// are loaded anew.
func TestDequeueOfAHeadThatHasChanged(t *testing.T) {
	y := pair(t)
	y.calls(t, enqueue(0, 1), enqueue(0, 2))
	y.make(t, dequeue(1))
	y.steps(t, 1, 6)
	y.calls(t, dequeue(0), enqueue(0, 3))
	from, shifts := y.accesses(), y.shifts()
	y.steps(t, 1, 1)
	y.wantOnWay(t, 1)
	y.finish(t, 1)
	zero, one := y.hazardAt(1, 0), y.hazardAt(1, 1)
	y.wantSeen(t, from, load(1, headAddr, link(1)), store(1, zero, link(1)), load(1, headAddr, link(1)),
		load(1, tailAddr, link(3)), load(1, y.linkAt(1), link(2)), store(1, one, link(2)), load(1, headAddr, link(1)),
		load(1, y.valueAt(2), 2), swap(1, headAddr, link(1), link(2), link(1)), store(1, zero, 0), store(1, one, 0))
	y.wantShifts(t, shifts, shift(1, 1, api.StateLinked, api.StateDetached), shift(1, 1, api.StateDetached, api.StateRetired))
	y.wantAnswer(t, 1, value(2))
	y.wantQueue(t, 3)
}

// Line 7: Head changes, and the queue is empty then: the hazards that were stored are cleared.
func TestDequeueOfAQueueThatGoes(t *testing.T) {
	y := pair(t)
	y.call(t, enqueue(0, 1))
	y.make(t, dequeue(1))
	y.steps(t, 1, 6)
	y.call(t, dequeue(0))
	from := y.accesses()
	y.finish(t, 1)
	zero, one := y.hazardAt(1, 0), y.hazardAt(1, 1)
	y.wantSeen(t, from, load(1, headAddr, link(1)), store(1, zero, link(1)), load(1, headAddr, link(1)),
		load(1, tailAddr, link(1)), load(1, y.linkAt(1), 0), store(1, zero, 0), store(1, one, 0))
	if got := y.last(1); got.Answer != empty || got.Point != got.End-2 {
		t.Errorf("%+v", got)
	}
}

// Line 7 and what is behind it: Tail was at Head when it was loaded, and Head has changed since: Tail
// is not helped on.
func TestDequeueOfBothThatHaveChanged(t *testing.T) {
	y := pair(t)
	y.make(t, enqueue(0, 1))
	y.steps(t, 0, 10)
	y.make(t, dequeue(1))
	y.steps(t, 1, 6) // it has found Tail at Head, and a slot behind it
	y.finish(t, 0)
	y.calls(t, dequeue(0), enqueue(0, 2))
	from := y.accesses()
	y.finish(t, 1)
	zero, one := y.hazardAt(1, 0), y.hazardAt(1, 1)
	y.wantSeen(t, from, load(1, headAddr, link(1)), store(1, zero, link(1)), load(1, headAddr, link(1)),
		load(1, tailAddr, link(2)), load(1, y.linkAt(1), link(2)), store(1, one, link(2)), load(1, headAddr, link(1)),
		load(1, y.valueAt(2), 2), swap(1, headAddr, link(1), link(2), link(1)), store(1, zero, 0), store(1, one, 0))
	y.wantAnswer(t, 1, value(2))
}

// Line 8: Tail is found at Head with a slot behind it, and helped on ahead of Head; then the call
// begins anew.
func TestDequeueHelps(t *testing.T) {
	y := pair(t)
	y.make(t, enqueue(0, 1))
	y.steps(t, 0, 10)
	from, shifts := y.accesses(), y.shifts()
	y.make(t, dequeue(1))
	y.steps(t, 1, 8)
	zero, one := y.hazardAt(1, 0), y.hazardAt(1, 1)
	y.wantSeen(t, from, load(1, headAddr, link(0)), store(1, zero, link(0)), load(1, headAddr, link(0)), load(1, tailAddr, link(0)),
		load(1, y.linkAt(0), link(1)), store(1, one, link(1)), load(1, headAddr, link(0)), swap(1, tailAddr, link(0), link(1), link(0)))
	y.wantOnWay(t, 1)
	y.wantShifts(t, shifts)
	y.wantEnds(t, 0, 1)
	from = y.accesses()
	y.finish(t, 1)
	y.wantSeen(t, from, load(1, headAddr, link(0)), store(1, zero, link(0)), load(1, headAddr, link(0)), load(1, tailAddr, link(1)),
		load(1, y.linkAt(0), link(1)), store(1, one, link(1)), load(1, headAddr, link(0)), load(1, y.valueAt(1), 1),
		swap(1, headAddr, link(0), link(1), link(0)), store(1, zero, 0), store(1, one, 0))
	y.wantAnswer(t, 1, value(1))
	y.finish(t, 0)
	y.wantAnswer(t, 0, done)
	y.wantEnds(t, 1, 1)
}

// Line 8: the help comes too late, and the call begins anew all the same.
func TestDequeueHelpsTooLate(t *testing.T) {
	y := pair(t)
	y.make(t, enqueue(0, 1))
	y.steps(t, 0, 10)
	y.make(t, dequeue(1))
	y.steps(t, 1, 7)
	y.finish(t, 0)
	from := y.accesses()
	y.steps(t, 1, 2)
	y.wantSeen(t, from, swap(1, tailAddr, link(0), link(1), link(1)), load(1, headAddr, link(0)))
	if steps := y.finish(t, 1); steps != 10 {
		t.Errorf("%d steps more", steps)
	}
	y.wantAnswer(t, 1, value(1))
	y.wantQueue(t)
}

// Line 10: the swap of Head is overtaken: the call begins anew with the load of Head.
func TestDequeueOvertaken(t *testing.T) {
	y := pair(t)
	y.calls(t, enqueue(0, 1), enqueue(0, 2))
	y.make(t, dequeue(1))
	y.steps(t, 1, 8)
	y.call(t, dequeue(0))
	y.wantAnswer(t, 0, value(1))
	from, shifts := y.accesses(), y.shifts()
	y.steps(t, 1, 1)
	y.wantOnWay(t, 1)
	y.wantShifts(t, shifts)
	y.finish(t, 1)
	zero, one := y.hazardAt(1, 0), y.hazardAt(1, 1)
	y.wantSeen(t, from, swap(1, headAddr, link(0), link(1), link(1)), load(1, headAddr, link(1)), store(1, zero, link(1)),
		load(1, headAddr, link(1)), load(1, tailAddr, link(2)), load(1, y.linkAt(1), link(2)), store(1, one, link(2)),
		load(1, headAddr, link(1)), load(1, y.valueAt(2), 2), swap(1, headAddr, link(1), link(2), link(1)),
		store(1, zero, 0), store(1, one, 0))
	y.wantAnswer(t, 1, value(2))
	y.wantList(t, 0, 0)
	y.wantList(t, 1, 1)
}

// Line 10: it is overtaken by the dequeue of the last one: Empty, with nothing retired.
func TestDequeueOvertakenTillEmpty(t *testing.T) {
	y := pair(t)
	y.call(t, enqueue(0, 1))
	y.make(t, dequeue(1))
	y.steps(t, 1, 8)
	y.call(t, dequeue(0))
	from, shifts := y.accesses(), y.shifts()
	y.finish(t, 1)
	zero, one := y.hazardAt(1, 0), y.hazardAt(1, 1)
	y.wantSeen(t, from, swap(1, headAddr, link(0), link(1), link(1)), load(1, headAddr, link(1)), store(1, zero, link(1)),
		load(1, headAddr, link(1)), load(1, tailAddr, link(1)), load(1, y.linkAt(1), 0), store(1, zero, 0), store(1, one, 0))
	y.wantShifts(t, shifts)
	y.wantAnswer(t, 1, empty)
	y.wantList(t, 1)
}

// A slot that a dequeue looks at is kept from coming back: that of Head by hazard 0, the one behind it
// by hazard 1.
func TestDequeueKeepsItsSlots(t *testing.T) {
	y := yardOf(t, configOf(2, 2, 1, 0, 4))
	y.calls(t, register(0), register(1), enqueue(0, 1), enqueue(0, 2), enqueue(0, 3))
	y.make(t, dequeue(1))
	y.steps(t, 1, 7) // it has named slots 0 and 1
	for slot := range 2 {
		if got := y.call(t, dequeue(0)); got.Answer != value(slot+1) {
			t.Errorf("%+v", got)
		}
		y.wantState(t, slot, api.StateRetired, 0)
	}
	y.wantList(t, 0, 0, 1)
	if got := y.call(t, enqueue(0, 4)); got.Answer != full {
		t.Errorf("%+v", got)
	}
	y.finish(t, 1)
	y.wantAnswer(t, 1, value(3))
	y.call(t, scan(0))
	y.wantList(t, 0)
	y.wantState(t, 0, api.StateFree, -1)
	y.wantState(t, 1, api.StateFree, -1)
	y.wantState(t, 2, api.StateFree, -1)
}

// The slot that a dequeue retires is kept by another's hazard that names it; a scan behind that one's
// clearing gives it back.
func TestDequeueOfASlotThatAHazardNames(t *testing.T) {
	y := yardOf(t, configOf(2, 2, 1, 0, 3))
	y.calls(t, register(0), register(1), enqueue(0, 1))
	y.call(t, poked(1, y.hazardAt(1, 2), link(0)))
	from := y.accesses()
	got := y.call(t, dequeue(0))
	// 11 accesses of its own, one of record 1, and six hazards.
	if got.Answer != value(1) || got.End-got.Begin != 18 || got.Point != got.Begin+9 {
		t.Errorf("%+v", got)
	}
	if seen := y.m.Run().Trace[from:]; seen[17].Addr != y.hazardAt(1, 2) || seen[17].Saw != link(0) {
		t.Errorf("%+v", seen[17])
	}
	y.wantList(t, 0, 0)
	y.wantState(t, 0, api.StateRetired, 0)
	y.calls(t, clearing(1, 2), scan(0))
	y.wantList(t, 0)
	y.wantState(t, 0, api.StateFree, -1)
}

// A scan behind a dequeue gives back all that waited in the list; its own hazards keep nothing.
func TestDequeueThatScans(t *testing.T) {
	y := yardOf(t, configOf(1, 1, 3, 1, 4))
	y.calls(t, register(0), enqueue(0, 1), enqueue(0, 2), enqueue(0, 3), dequeue(0), dequeue(0))
	y.wantList(t, 0, 0, 1)
	shifts := y.shifts()
	got := y.call(t, dequeue(0))
	// 11 accesses of its own, 3 hazards; slot 0 goes into the cache, slots 1 and 2 cost 3 accesses each.
	if got.Answer != value(3) || got.End-got.Begin != 20 || got.Point != got.Begin+9 {
		t.Errorf("%+v", got)
	}
	y.wantShifts(t, shifts, shift(0, 2, api.StateLinked, api.StateDetached), shift(0, 2, api.StateDetached, api.StateRetired),
		shift(0, 0, api.StateRetired, api.StateCached), shift(0, 1, api.StateRetired, api.StateFree),
		shift(0, 2, api.StateRetired, api.StateFree))
	y.wantList(t, 0)
}

// The answer is what line 9 saw, though the slot of that value is taken out, given back and in use
// again ahead of the call's end.
func TestDequeueAnswersWhatItSaw(t *testing.T) {
	y := yardOf(t, configOf(2, 2, 1, 0, 3))
	y.calls(t, register(0), register(1), enqueue(0, 1), enqueue(0, 2))
	y.make(t, dequeue(0))
	y.steps(t, 0, 12) // both hazards are cleared, and its scan has begun
	y.call(t, dequeue(1))
	y.wantAnswer(t, 1, value(2))
	y.call(t, enqueue(1, 9))
	if w := y.word(y.valueAt(1)); w != 9 || !y.m.Busy(0) {
		t.Fatalf("slot 1's value is %d", w)
	}
	y.finish(t, 0)
	y.wantAnswer(t, 0, value(1))
	y.wantQueue(t, 9)
}
