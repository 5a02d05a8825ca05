package split_test

import (
	"testing"

	"reclaim/api"
)

// meeting is a machine of two threads with an empty table of eight buckets in use, in which thread 0 plants
// bucket 4 for a get of 12, and is ahead of its swap of Root: it has the slot that is told.
func meeting(t *testing.T, s api.Split) (*yard, int) {
	t.Helper()
	y := grown(t, s, 8)
	slots, _ := y.free()
	slot := slots[0]
	y.make(t, get(0, 12))
	y.goes(t, all(
		y.loadsSize(0, 8), one(load(0, bucketAt(4), 0), load(0, rootAt, 0)),
		y.takes(0, 0), one(store(0, valueAt(s, slot), bucketPlace(4)), store(0, linkAt(s, slot), 0)))...)
	return y, slot
}

// P23.2, no slot taken, present: another thread's slot stands there, whose bucket is not named yet. It is named
// by whoever comes first; the swap of the other one fails, and is as good.
func TestPlantFindsASlot(t *testing.T) {
	y, slot := meeting(t, pair(8, 8, 1))
	s := y.s
	shifts := y.shifts()
	y.goes(t, swap(0, rootAt, 0, link(slot)))
	y.wantShifts(t, shifts, api.Shift{Move: y.now(), Thread: 0, Slot: slot, From: api.StateOwned, To: api.StateLinked})
	y.pending(t, 0, -1)
	y.wantBuckets(t, 4)
	y.tells(t, get(1, 4), no, 11, all(
		y.loadsSize(1, 8), one(load(1, bucketAt(4), 0)),
		y.first(1, rootAt, slot), y.looks(1, rootAt, slot, 0, bucketPlace(4)),
		one(swap(1, bucketAt(4), 0, link(slot)), load(1, linkAt(s, slot), 0)), y.leaves(1))...)
	y.goes(t, fails(0, bucketAt(4), 0, link(slot), link(slot)))
	y.goes(t, load(0, linkAt(s, slot), 0))
	point := y.now()
	y.goes(t, y.leaves(0)...)
	y.ended(t, 0, no, point)
	y.wantBuckets(t, 4)
	y.wantSlots(t, slot)
}

// P23.2, a slot taken, present: it is given back, and the slot that was found is the bucket's.
func TestPlantFindsASlotBehindItsOwn(t *testing.T) {
	y, mine := meeting(t, pair(8, 8, 1))
	s := y.s
	slots, _ := y.free()
	theirs := slots[0]
	y.calls(t, no, get(1, 4))
	y.wantSlots(t, theirs)
	y.goes(t, fails(0, rootAt, 0, link(mine), link(theirs)))
	y.goes(t, all(y.first(0, rootAt, theirs), y.looks(0, rootAt, theirs, 0, bucketPlace(4)))...)
	y.wantState(t, mine, api.StateOwned)
	y.goes(t, y.gives(0, mine)...)
	y.wantState(t, mine, api.StateFree)
	y.pending(t, 0, -1)
	y.goes(t, fails(0, bucketAt(4), 0, link(theirs), link(theirs)), load(0, linkAt(s, theirs), 0))
	point := y.now()
	y.goes(t, y.leaves(0)...)
	y.ended(t, 0, no, point)
	y.wantBuckets(t, 4)
}

// Likewise, but the slot goes to the cache, which needs no access.
func TestPlantGivesToTheCache(t *testing.T) {
	s := splitOf(2, 9, 1, 8, 8, 1)
	y := grown(t, s, 8)
	y.make(t, get(0, 12))
	y.goesTo(t, 0, api.AccessSwap, rootAt)
	mine := slotIn(y.next(t, 0).New)
	y.calls(t, no, get(1, 4))
	theirs := slotsOf(s, y.m.Run().Words)[0]
	y.goes(t, fails(0, rootAt, 0, link(mine), link(theirs)))
	y.goes(t, all(y.first(0, rootAt, theirs), y.looks(0, rootAt, theirs, 0, bucketPlace(4)))...)
	y.wantState(t, mine, api.StateCached)
	y.goes(t, fails(0, bucketAt(4), 0, link(theirs), link(theirs)), load(0, linkAt(s, theirs), 0))
	y.goes(t, y.leaves(0)...)
	y.ended(t, 0, no, y.now()-3)
	// A slot out of the cache needs no access either.
	y.tells(t, get(0, 2), no, 14, all(
		y.loadsSize(0, 8), one(load(0, bucketAt(2), 0)),
		y.first(0, rootAt, theirs), y.looks(0, rootAt, theirs, 0, bucketPlace(4)),
		one(store(0, valueAt(s, mine), bucketPlace(2)), store(0, linkAt(s, mine), 0), swap(0, linkAt(s, theirs), 0, link(mine)), swap(0, bucketAt(2), 0, link(mine))),
		one(load(0, linkAt(s, mine), 0)), y.leaves(0))...)
}

// P23.2: a swap that fails, and the place is still free: the slot is kept, its value is not stored again; its link
// is, with what is seen then.
func TestPlantSwapFails(t *testing.T) {
	y, mine := meeting(t, pair(8, 8, 1))
	s := y.s
	slots, _ := y.free()
	other := slots[0]
	y.calls(t, yes, add(1, 64, 640)) // a key of bucket 0, ahead
	y.goes(t, fails(0, rootAt, 0, link(mine), link(other)))
	y.goes(t, all(y.first(0, rootAt, other), y.looks(0, rootAt, other, 0, keyAt(64)))...)
	y.goes(t, store(0, linkAt(s, mine), 0), swap(0, linkAt(s, other), 0, link(mine)), swap(0, bucketAt(4), 0, link(mine)))
	y.goes(t, load(0, linkAt(s, mine), 0))
	y.goes(t, y.leaves(0)...)
	y.ended(t, 0, no, y.now()-3)
	y.wantSlots(t, other, mine)

	y, mine = meeting(t, pair(8, 8, 1))
	slots, _ = y.free()
	other = slots[0]
	y.calls(t, no, get(1, 1)) // bucket 1, behind
	y.goes(t, fails(0, rootAt, 0, link(mine), link(other)))
	y.goes(t, all(y.first(0, rootAt, other), y.looks(0, rootAt, other, 0, bucketPlace(1)))...)
	y.goes(t, store(0, linkAt(s, mine), link(other)), swap(0, rootAt, link(other), link(mine)), swap(0, bucketAt(4), 0, link(mine)))
	y.finish(t, 0)
	y.wantSlots(t, mine, other)
	y.wantBuckets(t, 1, 4)
}

// P23.2: a Find that is made anew begins at the root of the bucket's parent, not at Root.
func TestPlantAnewFromItsRoot(t *testing.T) {
	y := grown(t, pair(8, 8, 1), 8)
	s := y.s
	y.calls(t, no, get(0, 1))
	first := slotsOf(s, y.m.Run().Words)[0]
	y.make(t, get(0, 5))
	y.goesTo(t, 0, api.AccessSwap, linkAt(s, first))
	mine := slotIn(y.next(t, 0).New)
	y.calls(t, yes, add(1, 1, 10))
	key1 := slotsOf(s, y.m.Run().Words)[1]
	y.goes(t, fails(0, linkAt(s, first), 0, link(mine), link(key1)))
	y.goes(t, y.first(0, linkAt(s, first), key1)...)
	y.goes(t, y.looks(0, linkAt(s, first), key1, 0, keyAt(1))...)
	y.goes(t, store(0, linkAt(s, mine), 0), swap(0, linkAt(s, key1), 0, link(mine)), swap(0, bucketAt(5), 0, link(mine)))
	y.finish(t, 0)
	y.wantSlots(t, first, key1, mine)
}

// P23.2: no slot is to be had: the planting is given up, and the root is that of the bucket ahead; the next ones
// are tried all the same.
func TestPlantFindsNoSlot(t *testing.T) {
	y := grown(t, pair(5, 8, 1), 8)
	y.calls(t, yes, add(0, 0, 0), add(0, 64, 640), add(0, 128, 1280), add(0, 192, 1920), add(0, 256, 2560))
	slots := slotsOf(y.s, y.m.Run().Words)
	free, tag := y.free()
	if len(free) > 0 {
		t.Fatalf("the slots %v are free", free)
	}
	at := rootAt // from here to the list's end, behind all keys
	line := y.first(0, at, slots[0])
	for i, slot := range slots {
		line = all(line, y.looks(0, at, slot, y.word(linkAt(y.s, slot)), y.word(valueAt(y.s, slot))))
		if at = linkAt(y.s, slot); i < len(slots)-1 {
			line = all(line, y.passes(0, slot, slots[i+1]))
		}
	}
	nothing := one(load(0, freeAt, head(tag, -1)))
	y.tells(t, get(0, 7), no, 4+3*(len(line)+1)+len(line)-3, all(
		y.loadsSize(0, 8), one(load(0, bucketAt(7), 0), load(0, bucketAt(3), 0), load(0, bucketAt(1), 0)),
		line, nothing, line, nothing, line, nothing, line, y.leaves(0))...)
	y.wantBuckets(t)
	y.wantSlots(t, slots...)
}

// Likewise, but there is a slot for the first bucket: the others' root is its.
func TestPlantFindsOneSlot(t *testing.T) {
	y := grown(t, pair(5, 8, 1), 8)
	y.calls(t, yes, add(0, 0, 0), add(0, 1<<29, 0), add(0, 1<<28, 0), add(0, 3<<28, 0)) // their places are the least
	s := y.s
	free, tag := y.free()
	if len(free) != 1 {
		t.Fatalf("the slots %v are free", free)
	}
	nothing := one(load(0, freeAt, head(tag+1, -1)))
	y.make(t, get(0, 7))
	y.goesTo(t, 0, api.AccessSwap, bucketAt(1))
	y.goes(t, swap(0, bucketAt(1), 0, link(free[0])))
	at := linkAt(s, free[0])
	y.goes(t, all(one(load(0, at, 0)), nothing, one(load(0, at, 0)), nothing, y.shows(0, at))...)
	y.ended(t, 0, no, y.now()-3)
	y.wantBuckets(t, 1)
}

// A planting that is given up is made up for by a later call.
func TestPlantLater(t *testing.T) {
	y := grown(t, splitOf(1, 1, 0, 5, 4, 1), 4)
	y.calls(t, yes, add(0, 0, 0), add(0, 64, 640), add(0, 128, 1280), add(0, 192, 1920), add(0, 256, 2560))
	y.calls(t, no, get(0, 3))
	y.wantBuckets(t)
	y.calls(t, value(640), remove(0, 64))
	y.calls(t, done, api.Move{Op: api.OpScan})
	y.calls(t, no, get(0, 3))
	y.wantBuckets(t, 1)
	y.calls(t, value(1280), remove(0, 128))
	y.calls(t, done, api.Move{Op: api.OpScan})
	y.calls(t, no, get(0, 3))
	y.wantBuckets(t, 1, 3)
}

// P23.2: two threads that plant one bucket, and those it comes from, at the same time, however they meet: each
// bucket has one slot in the end, and no slot is lost.
func TestPlantByTwo(t *testing.T) {
	for first := range 40 {
		for second := range 40 {
			y := grown(t, pair(8, 8, 1), 8)
			y.make(t, get(0, 7), add(1, 7, 70))
			y.upTo(t, 0, first)
			y.upTo(t, 1, second)
			y.finish(t, 0)
			y.finish(t, 1)
			y.wantBuckets(t, 1, 3, 7)
			y.wantTens(t, 7)
			y.wantHolds(t)
			if free, _ := y.free(); len(free) != 4 || len(slotsOf(y.s, y.m.Run().Words)) != 4 {
				t.Fatalf("behind %d and %d steps: %v are free", first, second, free)
			}
			for _, bucket := range []int{1, 3, 7} {
				if slot := slotIn(y.word(bucketAt(bucket))); slot < 0 || y.word(valueAt(y.s, slot)) != bucketPlace(bucket) {
					t.Fatalf("bucket %d names slot %d", bucket, slot)
				}
			}
		}
	}
}

// upTo lets a thread make so many steps, or fewer if its call ends.
func (y *yard) upTo(t *testing.T, thread, count int) {
	t.Helper()
	for range count {
		if !y.m.Busy(thread) {
			return
		}
		y.steps(t, thread, 1)
	}
}
