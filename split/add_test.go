package split_test

import (
	"testing"

	"reclaim/api"
)

// puts is how an add goes on behind its Find, with the slot that the free list has first, if it has not swapped
// yet: w is what Find saw.
func (y *yard) puts(thread, key, data int, w uint64) []api.Access {
	slots, _ := y.free()
	return all(y.takes(thread, 0), one(
		store(thread, valueAt(y.s, slots[0]), keyAt(key)), store(thread, dataAt(y.s, slots[0]), uint64(data)), store(thread, linkAt(y.s, slots[0]), w)))
}

// P23.4: an add into an empty table, ahead of a slot, behind one and between two.
func TestAddYes(t *testing.T) {
	y := filled(t, pair(8, 1, 16))
	s := y.s
	y.tells(t, add(0, 2, -7), yes, 8, all(
		y.loadsSize(0, 1), one(load(0, rootAt, 0)), y.puts(0, 2, -7, 0), one(swap(0, rootAt, 0, link(0))),
		y.counts(0, 0, 1, 1), y.leaves(0))...)
	y.tells(t, add(0, 0, 1<<63-1), yes, 15, all(
		y.loadsSize(0, 1), y.first(0, rootAt, 0), y.looks(0, rootAt, 0, 0, keyAt(2)),
		y.puts(0, 0, 1<<63-1, link(0)), one(swap(0, rootAt, link(0), link(1))),
		y.counts(0, 1, 2, 1), y.leaves(0))...)
	y.tells(t, add(1, api.MaxSplitKey, -1<<63), yes, 22, all(
		y.loadsSize(1, 1), y.first(1, rootAt, 1), y.looks(1, rootAt, 1, link(0), keyAt(0)), y.passes(1, 1, 0), y.looks(1, linkAt(s, 1), 0, 0, keyAt(2)),
		y.puts(1, api.MaxSplitKey, -1<<63, 0), one(swap(1, linkAt(s, 0), 0, link(2))),
		y.counts(1, 2, 3, 1), y.leaves(1))...)
	y.tells(t, add(1, 1, 0), yes, 29, all(
		y.loadsSize(1, 1), y.first(1, rootAt, 1), y.looks(1, rootAt, 1, link(0), keyAt(0)), y.passes(1, 1, 0), y.looks(1, linkAt(s, 1), 0, link(2), keyAt(2)),
		y.passes(1, 0, 2), y.looks(1, linkAt(s, 0), 2, 0, keyAt(api.MaxSplitKey)),
		y.puts(1, 1, 0, link(2)), one(swap(1, linkAt(s, 0), link(2), link(3))),
		y.counts(1, 3, 4, 1), y.leaves(1))...)
	y.wantSlots(t, 1, 0, 3, 2)
	for key, v := range map[int]int{2: -7, 0: 1<<63 - 1, api.MaxSplitKey: -1 << 63, 1: 0} {
		y.calls(t, value(v), get(0, key))
	}
}

// P23.4: the point is the swap, from its move on; the slot is Linked from there on.
func TestAddsPoint(t *testing.T) {
	y := filled(t, pair(8, 1, 16))
	y.make(t, add(0, 2, 20))
	for range 8 {
		y.steps(t, 0, 1)
		y.pending(t, 0, -1)
		y.wantTens(t)
	}
	y.wantState(t, 0, api.StateOwned)
	y.steps(t, 0, 1)
	point := y.now()
	y.wantState(t, 0, api.StateLinked)
	for range 5 {
		y.pending(t, 0, point)
		y.wantTens(t, 2)
		y.steps(t, 0, 1)
	}
	y.steps(t, 0, 1)
	y.ended(t, 0, yes, point)
}

// P23.4: the key is there: no slot is taken, its value stays, nothing is counted.
func TestAddNo(t *testing.T) {
	y := filled(t, pair(8, 1, 16), 2)
	shifts := y.shifts()
	y.tells(t, add(1, 2, 99), no, 6, all(y.loadsSize(1, 1), y.first(1, rootAt, 0), y.looks(1, rootAt, 0, 0, keyAt(2)), y.leaves(1))...)
	y.wantShifts(t, shifts)
	y.wantTens(t, 2)
	y.wantSizes(t, 1, 1)
}

// The point of a No stands from the move in which Find ended.
func TestAddsPointOfNo(t *testing.T) {
	y := filled(t, pair(8, 1, 16), 2)
	y.make(t, add(1, 2, 99))
	y.steps(t, 1, 8)
	y.pending(t, 1, -1)
	y.steps(t, 1, 1)
	y.pending(t, 1, y.now()-2)
	y.steps(t, 1, 2)
	y.pending(t, 1, y.now()-4)
	y.steps(t, 1, 1)
	y.ended(t, 1, no, y.now()-5)
}

// P23.4: no slot is to be had: Full; its point is Take's load, and is told with the end.
func TestAddFull(t *testing.T) {
	y := filled(t, pair(1, 1, 16), 2)
	_, tag := y.free()
	y.make(t, add(1, 1, 10))
	y.goes(t, all(y.loadsSize(1, 1), y.first(1, rootAt, 0), y.looks(1, rootAt, 0, 0, keyAt(2)), one(load(1, freeAt, head(tag, -1))))...)
	point := y.now()
	y.pending(t, 1, -1)
	for _, a := range y.leaves(1) {
		y.pending(t, 1, -1)
		y.goes(t, a)
	}
	y.ended(t, 1, full, point)
	y.wantTens(t, 2)
	y.wantSizes(t, 1, 1)
	// The key that is there needs none.
	y.calls(t, no, add(1, 2, 99))
	// Where the first load sees none it is the load behind it that is the point.
	y.calls(t, value(20), remove(1, 2))
	y.tells(t, add(0, 2, 20), full, 2, all(y.loadsSize(0, 1), one(load(0, rootAt, 0), load(0, freeAt, head(tag, -1))), y.leaves(0))...)
}

// P23.4: the last slot went to the bucket: Full.
func TestAddFullBehindAPlanting(t *testing.T) {
	y := grown(t, pair(3, 2, 1), 2)
	y.calls(t, yes, add(0, 0, 0), add(0, 2, 20))
	y.make(t, add(1, 1, 10))
	y.finish(t, 1)
	if got := y.last(1); got.Answer != full || got.Point != got.End-3 {
		t.Errorf("%+v", got)
	}
	y.wantBuckets(t, 1)
	y.wantTens(t, 0, 2)
	y.wantHolds(t)
	// Behind it the bucket is there, and a slot that is given back is the key's.
	y.calls(t, value(20), remove(0, 2))
	y.calls(t, done, api.Move{Op: api.OpScan})
	y.calls(t, yes, add(1, 1, 10))
}

// spoilt is a machine in which thread 0's add of a key is ahead of its swap of Root, with the slot that is told;
// thread 1 has then changed Root by these calls.
func spoilt(t *testing.T, s api.Split, held []int, key int, calls ...api.Move) (*yard, int) {
	t.Helper()
	y := filled(t, s, held...)
	y.make(t, add(0, key, 10*key))
	y.goesTo(t, 0, api.AccessSwap, rootAt)
	swap := y.next(t, 0)
	for _, mv := range calls {
		y.call(t, mv)
	}
	y.goes(t, fails(0, rootAt, swap.Old, swap.New, y.word(rootAt)))
	return y, slotIn(swap.New)
}

// P23.4: a swap that fails: Find anew, from the same root; the slot is kept, its value and its data are not stored
// again.
func TestAddSwapFails(t *testing.T) {
	y, mine := spoilt(t, pair(8, 1, 16), nil, 1, add(1, 2, 20))
	s := y.s
	y.pending(t, 0, -1)
	y.goes(t, all(y.first(0, rootAt, 1), y.looks(0, rootAt, 1, 0, keyAt(2)))...)
	y.goes(t, store(0, linkAt(s, mine), 0), swap(0, linkAt(s, 1), 0, link(mine)))
	point := y.now()
	y.goes(t, all(y.counts(0, 1, 2, 1), y.leaves(0))...)
	y.ended(t, 0, yes, point)
	y.wantTens(t, 1, 2)

	y, mine = spoilt(t, pair(8, 1, 16), []int{2}, 0, remove(1, 2), add(1, 1, 10))
	y.goes(t, y.first(0, rootAt, 2)...)
	y.goes(t, y.looks(0, rootAt, 2, 0, keyAt(1))...)
	y.goes(t, store(0, linkAt(s, mine), link(2)), swap(0, rootAt, link(2), link(mine)))
	y.finish(t, 0)
	y.wantTens(t, 0, 1)
	y.wantSlots(t, mine, 2)
}

// P23.4: with a slot that is kept an add doesn't answer Full, though no slot is free any more.
func TestAddKeepsItsSlot(t *testing.T) {
	y, mine := spoilt(t, pair(2, 1, 16), nil, 1, add(1, 2, 20))
	if free, _ := y.free(); len(free) > 0 {
		t.Fatalf("the slots %v are free", free)
	}
	y.calls(t, full, add(1, 3, 30))
	y.finish(t, 0)
	if got := y.last(0).Answer; got != yes {
		t.Errorf("%+v", got)
	}
	y.wantTens(t, 1, 2)
	y.wantSlots(t, 1, mine)
}

// P23.4: a slot that is kept is given back, when another thread has put the key there meanwhile.
func TestAddGivesBack(t *testing.T) {
	y, mine := spoilt(t, pair(8, 1, 16), nil, 1, add(1, 1, 10))
	y.goes(t, all(y.first(0, rootAt, 1), y.looks(0, rootAt, 1, 0, keyAt(1)))...)
	point := y.now() - 2
	y.pending(t, 0, point)
	y.wantState(t, mine, api.StateOwned)
	y.goes(t, y.gives(0, mine)...)
	y.wantState(t, mine, api.StateFree)
	y.pending(t, 0, point)
	y.goes(t, y.leaves(0)...)
	y.ended(t, 0, no, point)
	y.wantSizes(t, 1, 1)
	y.wantTens(t, 1)

	// To the cache, at the move in which Find ends.
	y, mine = spoilt(t, splitOf(2, 9, 1, 8, 1, 16), nil, 1, add(1, 1, 10))
	y.goes(t, all(y.first(0, rootAt, 1), y.looks(0, rootAt, 1, 0, keyAt(1)))...)
	y.wantState(t, mine, api.StateCached)
	point = y.now() - 2
	y.pending(t, 0, point)
	y.goes(t, y.leaves(0)...)
	y.ended(t, 0, no, point)
	// And out of it, without an access.
	y.tells(t, add(0, 2, 20), yes, 1+3+5+3, all(
		y.loadsSize(0, 1), y.first(0, rootAt, 1), y.looks(0, rootAt, 1, 0, keyAt(1)),
		one(store(0, valueAt(y.s, mine), keyAt(2)), store(0, dataAt(y.s, mine), 20), store(0, linkAt(y.s, mine), link(1)), swap(0, rootAt, link(1), link(mine))),
		y.counts(0, 1, 2, 1), y.leaves(0))...)
}

// P23.4: an add whose Find comes by a marked slot takes that one out.
func TestAddTakesOutAMarkedSlot(t *testing.T) {
	y := filled(t, pair(8, 1, 16), 2, 1)
	s := y.s
	y.make(t, remove(1, 2))
	y.goesTo(t, 1, api.AccessLoad, dataAt(s, 0)) // behind the mark
	y.make(t, add(0, 2, 22))
	y.goes(t, all(
		y.loadsSize(0, 1), y.first(0, rootAt, 0), y.looks(0, rootAt, 0, marked(1), keyAt(2)),
		one(swap(0, rootAt, link(0), link(1)), store(0, hazardAt(s, 0, 1), link(1))),
		y.looks(0, rootAt, 1, 0, keyAt(1)), y.puts(0, 2, 22, link(1)), one(swap(0, rootAt, link(1), link(2))))...)
	point := y.now()
	y.wantState(t, 0, api.StateRetired)
	y.goes(t, y.counts(0, 2, 3, 1)...)
	y.goes(t, y.leaves(0)...)
	y.ended(t, 0, yes, point)
	y.finish(t, 1)
	if got := y.last(1).Answer; got != value(20) {
		t.Errorf("%+v", got)
	}
	y.wantSizes(t, 2, 1)
	y.calls(t, value(22), get(1, 2))
}
