package split_test

import (
	"testing"

	"reclaim/api"
)

// P23.6: a remove of a key that is there: the mark is the point; the slot goes to Detached by the swap ahead of
// it, and is retired; the key is counted out.
func TestRemoveValue(t *testing.T) {
	y := filled(t, pair(8, 1, 16), 2, 1)
	s := y.s
	shifts := y.shifts()
	y.tells(t, remove(1, 2), value(20), 9, all(
		y.loadsSize(1, 1), y.first(1, rootAt, 0), y.looks(1, rootAt, 0, link(1), keyAt(2)),
		one(swap(1, linkAt(s, 0), link(1), marked(1)), load(1, dataAt(s, 0), 20), swap(1, rootAt, link(0), link(1))),
		y.counts(1, 2, 1), y.leaves(1))...)
	out := y.now() - 5
	y.wantShifts(t, shifts, api.Shift{Move: out, Thread: 1, Slot: 0, From: api.StateLinked, To: api.StateDetached},
		api.Shift{Move: out, Thread: 1, Slot: 0, From: api.StateDetached, To: api.StateRetired})
	y.wantSizes(t, 1, 1)
	y.wantTens(t, 1)
	y.adds(t, 2)
	y.tells(t, remove(1, 1), value(10), 16, all(
		y.loadsSize(1, 1), y.first(1, rootAt, 2), y.looks(1, rootAt, 2, link(1), keyAt(2)), y.passes(1, 2, 1), y.looks(1, linkAt(s, 2), 1, 0, keyAt(1)),
		one(swap(1, linkAt(s, 1), 0, marked(-1)), load(1, dataAt(s, 1), 10), swap(1, linkAt(s, 2), link(1), 0)),
		y.counts(1, 2, 1), y.leaves(1))...)
	y.wantSlots(t, 2)
}

// P23.6: the point stands from the mark on; from there on the key is not there.
func TestRemovesPoint(t *testing.T) {
	y := filled(t, pair(8, 1, 16), 2)
	y.make(t, remove(1, 2))
	y.steps(t, 1, 9)
	y.pending(t, 1, -1)
	y.wantTens(t, 2)
	y.steps(t, 1, 1)
	point := y.now()
	for range 7 {
		y.pending(t, 1, point)
		y.wantTens(t)
		y.steps(t, 1, 1)
	}
	y.ended(t, 1, value(20), point)
}

// P23.6: a retired list that is long enough is scanned ahead of the count.
func TestRemoveScans(t *testing.T) {
	y := filled(t, splitOf(1, 1, 0, 3, 1, 16), 2)
	s := y.s
	y.tells(t, remove(0, 2), value(20), 9, all(
		y.loadsSize(0, 1), y.first(0, rootAt, 0), y.looks(0, rootAt, 0, 0, keyAt(2)),
		one(swap(0, linkAt(s, 0), 0, marked(-1)), load(0, dataAt(s, 0), 20), swap(0, rootAt, link(0), 0)),
		one(load(0, hazardAt(s, 0, 0), 0), load(0, hazardAt(s, 0, 1), link(0)), load(0, hazardAt(s, 0, 2), 0)),
		y.counts(0, 1, 0), y.leaves(0))...)
	y.wantState(t, 0, api.StateRetired)
	y.adds(t, 3)
	y.make(t, remove(0, 3))
	y.goesTo(t, 0, api.AccessLoad, countAt(s))
	y.wantState(t, 0, api.StateFree)
	y.wantState(t, 1, api.StateRetired)
	y.finish(t, 0)
}

// P23.6: a remove of a key that isn't there.
func TestRemoveNo(t *testing.T) {
	y := filled(t, pair(8, 1, 16))
	y.tells(t, remove(1, 2), no, 1, all(y.loadsSize(1, 1), y.shows(1, rootAt))...)
	y.adds(t, 2)
	shifts := y.shifts()
	y.tells(t, remove(1, 0), no, 8, all(y.loadsSize(1, 1), y.first(1, rootAt, 0), y.looks(1, rootAt, 0, 0, keyAt(2)), y.leaves(1))...)
	y.tells(t, remove(1, 1), no, 6, all(y.loadsSize(1, 1), y.first(1, rootAt, 0), y.looks(1, rootAt, 0, 0, keyAt(2)), y.leaves(1))...)
	y.wantShifts(t, shifts)
	y.wantSizes(t, 1, 1)
	y.make(t, remove(1, 0))
	y.steps(t, 1, 9)
	point := y.now()
	for range 3 {
		y.pending(t, 1, point)
		y.steps(t, 1, 1)
	}
	y.ended(t, 1, no, point)
}

// atMark is a machine of a table with the keys 2 and 1 in which thread 1's remove of 2 is ahead of its mark.
func atMark(t *testing.T) *yard {
	t.Helper()
	y := filled(t, pair(8, 1, 16), 2, 1)
	y.make(t, remove(1, 2))
	y.goesTo(t, 1, api.AccessSwap, linkAt(y.s, 0))
	return y
}

// P23.6: a mark that comes too late, since the slot's link is another: Find anew, and the mark with what is seen
// then.
func TestRemoveMarkFails(t *testing.T) {
	y := atMark(t)
	s := y.s
	y.calls(t, value(10), remove(0, 1)) // the slot behind is gone
	y.goes(t, fails(1, linkAt(s, 0), link(1), marked(1), 0))
	y.pending(t, 1, -1)
	y.goes(t, all(y.first(1, rootAt, 0), y.looks(1, rootAt, 0, 0, keyAt(2)))...)
	y.pending(t, 1, -1)
	y.goes(t, swap(1, linkAt(s, 0), 0, marked(-1)))
	point := y.now()
	y.goes(t, all(one(load(1, dataAt(s, 0), 20), swap(1, rootAt, link(0), 0)), y.counts(1, 1, 0), y.leaves(1))...)
	y.ended(t, 1, value(20), point)
}

// P23.6: a mark that comes too late, since another remove's is there: Find anew finds nothing.
func TestRemoveByTwo(t *testing.T) {
	y := atMark(t)
	s := y.s
	y.calls(t, value(20), remove(0, 2))
	y.goes(t, fails(1, linkAt(s, 0), link(1), marked(1), marked(1)))
	y.goes(t, all(y.first(1, rootAt, 1), y.looks(1, rootAt, 1, 0, keyAt(1)))...)
	point := y.now()
	y.pending(t, 1, point)
	y.goes(t, y.leaves(1)...)
	y.ended(t, 1, no, point)
	y.wantSizes(t, 1, 1)
}

// atSwap is a machine likewise, in which the remove is ahead of the swap behind its mark.
func atSwap(t *testing.T) *yard {
	t.Helper()
	y := atMark(t)
	y.steps(t, 1, 1)
	y.goes(t, load(1, dataAt(y.s, 0), 20))
	return y
}

// P23.6: an unlinking swap that fails, since a slot has come in ahead: a Find anew takes the slot out, and is not
// looked at.
func TestRemoveSwapFails(t *testing.T) {
	y := filled(t, pair(8, 1, 16), 2, 1)
	s := y.s
	y.make(t, add(0, 0, 0))
	y.goesTo(t, 0, api.AccessSwap, rootAt) // with slot 2
	y.make(t, remove(1, 2))
	y.goesTo(t, 1, api.AccessSwap, linkAt(s, 0))
	y.goes(t, swap(1, linkAt(s, 0), link(1), marked(1)), load(1, dataAt(s, 0), 20))
	point := y.now() - 1
	y.finish(t, 0)
	y.goes(t, fails(1, rootAt, link(0), link(1), link(2)))
	y.goes(t, all(
		y.first(1, rootAt, 2), y.looks(1, rootAt, 2, link(0), keyAt(0)), y.passes(1, 2, 0), y.looks(1, linkAt(s, 2), 0, marked(1), keyAt(2)))...)
	y.goes(t, swap(1, linkAt(s, 2), link(0), link(1)))
	y.wantState(t, 0, api.StateRetired)
	y.goes(t, all(one(store(1, hazardAt(s, 1, 1), link(1))), y.looks(1, linkAt(s, 2), 1, 0, keyAt(1)))...)
	y.pending(t, 1, point)
	y.goes(t, all(y.counts(1, 3, 2), y.leaves(1))...)
	y.ended(t, 1, value(20), point)
	y.wantTens(t, 0, 1)
}

// P23.6: likewise, since the slot ahead has a mark.
func TestRemoveSwapFailsByAMark(t *testing.T) {
	y := filled(t, pair(8, 1, 16), 0, 2, 1)
	s := y.s
	y.make(t, remove(1, 2))
	y.goesTo(t, 1, api.AccessSwap, linkAt(s, 1))
	y.goes(t, swap(1, linkAt(s, 1), link(2), marked(2)), load(1, dataAt(s, 1), 20))
	point := y.now() - 1
	y.calls(t, value(0), remove(0, 0))
	y.goes(t, fails(1, linkAt(s, 0), link(1), link(2), marked(1)))
	y.goes(t, all(
		y.first(1, rootAt, 1), y.looks(1, rootAt, 1, marked(2), keyAt(2)), one(swap(1, rootAt, link(1), link(2)), store(1, hazardAt(s, 1, 1), link(2))),
		y.looks(1, rootAt, 2, 0, keyAt(1)), y.counts(1, 2, 1), y.leaves(1))...)
	y.ended(t, 1, value(20), point)
	y.wantTens(t, 1)
}

// P23.6: likewise, where another thread has taken the slot out, and where the key is there again: the answer is
// what was seen behind the mark.
func TestRemoveSwapFailsBehindAnother(t *testing.T) {
	y := atSwap(t)
	s := y.s
	point := y.now() - 1
	y.calls(t, no, get(0, 2)) // takes slot 0 out
	y.wantState(t, 0, api.StateRetired)
	y.goes(t, fails(1, rootAt, link(0), link(1), link(1)))
	y.goes(t, all(y.first(1, rootAt, 1), y.looks(1, rootAt, 1, 0, keyAt(1)), y.counts(1, 2, 1), y.leaves(1))...)
	y.ended(t, 1, value(20), point)

	y = atSwap(t)
	point = y.now() - 1
	y.calls(t, yes, add(0, 2, 22)) // slot 2
	y.goes(t, fails(1, rootAt, link(0), link(1), link(2)))
	y.goes(t, all(y.first(1, rootAt, 2), y.looks(1, rootAt, 2, link(1), keyAt(2)))...)
	y.pending(t, 1, point)
	y.goes(t, all(y.counts(1, 3, 2), y.leaves(1))...)
	y.ended(t, 1, value(20), point)
	y.calls(t, value(22), get(0, 2))
	if got := y.word(linkAt(s, 2)); got != link(1) {
		t.Errorf("the link of slot 2 is %x", got)
	}
}
