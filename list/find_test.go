package list_test

import (
	"math"
	"slices"
	"testing"

	"reclaim/api"
	"reclaim/list"
)

// listOf is a yard of two threads that hold the records of their numbers, with a list of keys: slot i has
// the key of number i. Nothing is scanned ahead of nine retired slots.
func listOf(t *testing.T, keys ...int) *yard {
	t.Helper()
	y := yardOf(t, configOf(2, 2, 9, 0, 6))
	y.calls(t, register(0), register(1))
	y.insertAll(t, keys...)
	return y
}

func (y *yard) insertAll(t *testing.T, keys ...int) {
	t.Helper()
	for _, key := range keys {
		if got := y.call(t, insert(0, key)); got.Answer != yes {
			t.Fatalf("%+v", got)
		}
	}
}

// mark puts a mark into a slot's link, as a Delete's D1 does.
func (y *yard) mark(t *testing.T, slots ...int) {
	t.Helper()
	for _, slot := range slots {
		y.call(t, poked(0, y.linkAt(slot), y.word(y.linkAt(slot))|markBit))
	}
}

// track tells accesses of a thread that holds the record of its number.
type track struct {
	*yard
	thread int
}

// first are the lines F1 to F3.
func (k track) first(w uint64) []api.Access {
	return []api.Access{load(k.thread, rootAddr, w), store(k.thread, k.hazardAt(k.thread, 1), w), load(k.thread, rootAddr, w)}
}

// look are the lines F4 to F8 over a slot, with what was seen ahead of it, its link and its key.
func (k track) look(at int, slot int, x uint64, key int) []api.Access {
	return []api.Access{load(k.thread, k.linkAt(slot), x), store(k.thread, k.hazardAt(k.thread, 0), x&^markBit), load(k.thread, k.linkAt(slot), x),
		load(k.thread, k.valueAt(slot), uint64(key)), load(k.thread, at, link(slot))}
}

// pass are the lines F9 and F10.
func (k track) pass(slot, next int) []api.Access {
	return []api.Access{store(k.thread, k.hazardAt(k.thread, 2), link(slot)), store(k.thread, k.hazardAt(k.thread, 1), link(next))}
}

// unlink is the line F11, succeeding.
func (k track) unlink(at int, slot int, x uint64) []api.Access {
	return []api.Access{swap(k.thread, at, link(slot), x&^markBit, link(slot))}
}

// name is the line F12.
func (k track) name(slot int) []api.Access {
	return []api.Access{store(k.thread, k.hazardAt(k.thread, 1), link(slot))}
}

// leave is the part Leave.
func (k track) leave() []api.Access {
	return []api.Access{store(k.thread, k.hazardAt(k.thread, 0), 0), store(k.thread, k.hazardAt(k.thread, 1), 0), store(k.thread, k.hazardAt(k.thread, 2), 0)}
}

// found is what a Find tells.
type found struct {
	there bool
	cur   int
	point int
	at    int
	saw   uint64
	next  uint64
}

// nothing is what it tells ahead of its end.
var nothing = found{cur: -1, point: -1}

func foundBy(f *list.Finding) found {
	var got found
	got.there, got.cur, got.point = f.Found()
	got.at, got.saw = f.Before()
	got.next = f.Next()
	return got
}

func wantFound(t *testing.T, f *list.Finding, want found) {
	t.Helper()
	if got := foundBy(f); got != want {
		t.Errorf("%+v, not %+v", got, want)
	}
}

// find begins a Find of thread 1 from the word Root on.
func (y *yard) find(t *testing.T, key int) *list.Finding {
	t.Helper()
	f := list.Find(y.Hazards, 1, rootAddr, key)
	y.begin(t, 1, f)
	return f
}

// findWhole makes a Find of thread 1 to its end, and asks for its accesses. Ahead of its end it tells
// nothing.
func (y *yard) findWhole(t *testing.T, key int, want ...[]api.Access) *list.Finding {
	t.Helper()
	f := y.find(t, key)
	from := y.accesses()
	for y.m.Busy(1) {
		wantFound(t, f, nothing)
		y.steps(t, 1, 1)
	}
	y.wantSeen(t, from, slices.Concat(want...)...)
	return f
}

// begun is the move in which a thread's last call began.
func (y *yard) begun(thread int) int { return y.last(thread).Begin }

// P8.1, F1: over an empty list the key is absent at once.
func TestFindInAnEmptyList(t *testing.T) {
	y := listOf(t)
	f := y.findWhole(t, 5, []api.Access{load(1, rootAddr, 0)})
	wantFound(t, f, found{false, -1, y.begun(1) + 1, rootAddr, 0, 0})
	y.wantAnswer(t, 1, done) // the part itself tells no answer
	if got := y.last(1); got.Point != -1 {
		t.Errorf("the part tells a point: %+v", got)
	}
}

// P8.1: a key that is there is found at the move of F6.
func TestFindOfAKeyThatIsThere(t *testing.T) {
	y := listOf(t, 5)
	k := track{y, 1}
	f := y.findWhole(t, 5, k.first(link(0)), k.look(rootAddr, 0, 0, 5))
	wantFound(t, f, found{true, 0, y.begun(1) + 6, rootAddr, link(0), 0})

	y = listOf(t, 5, 7, 9)
	k = track{y, 1}
	f = y.findWhole(t, 5, k.first(link(0)), k.look(rootAddr, 0, link(1), 5))
	wantFound(t, f, found{true, 0, y.begun(1) + 6, rootAddr, link(0), link(1)})
	f = y.findWhole(t, 7, k.first(link(0)), k.look(rootAddr, 0, link(1), 5), k.pass(0, 1), k.look(y.linkAt(0), 1, link(2), 7))
	wantFound(t, f, found{true, 1, y.begun(1) + 13, y.linkAt(0), link(1), link(2)})
	f = y.findWhole(t, 9, k.first(link(0)), k.look(rootAddr, 0, link(1), 5), k.pass(0, 1), k.look(y.linkAt(0), 1, link(2), 7),
		k.pass(1, 2), k.look(y.linkAt(1), 2, 0, 9))
	wantFound(t, f, found{true, 2, y.begun(1) + 20, y.linkAt(1), link(2), 0})
}

// P8.1: below all keys the key is absent at the move of F8, and cur stays.
func TestFindBelowAll(t *testing.T) {
	y := listOf(t, 5, 7)
	k := track{y, 1}
	f := y.findWhole(t, 4, k.first(link(0)), k.look(rootAddr, 0, link(1), 5))
	wantFound(t, f, found{false, 0, y.begun(1) + 8, rootAddr, link(0), link(1)})
}

// P8.1: between two keys likewise, at the second one.
func TestFindBetweenTwo(t *testing.T) {
	y := listOf(t, 5, 7)
	k := track{y, 1}
	f := y.findWhole(t, 6, k.first(link(0)), k.look(rootAddr, 0, link(1), 5), k.pass(0, 1), k.look(y.linkAt(0), 1, 0, 7))
	wantFound(t, f, found{false, 1, y.begun(1) + 15, y.linkAt(0), link(1), 0})
}

// P8.1: above all keys it is absent at the move of the last F6; cur is none, and the word ahead is the
// last slot's link.
func TestFindAboveAll(t *testing.T) {
	y := listOf(t, 5)
	k := track{y, 1}
	f := y.findWhole(t, 6, k.first(link(0)), k.look(rootAddr, 0, 0, 5))
	wantFound(t, f, found{false, -1, y.begun(1) + 6, y.linkAt(0), 0, 0})

	y = listOf(t, 5, 7)
	k = track{y, 1}
	f = y.findWhole(t, 8, k.first(link(0)), k.look(rootAddr, 0, link(1), 5), k.pass(0, 1), k.look(y.linkAt(0), 1, 0, 7))
	wantFound(t, f, found{false, -1, y.begun(1) + 13, y.linkAt(1), 0, 0})
}

// P4: keys are ints, of either sign.
func TestFindOfAnyKey(t *testing.T) {
	keys := []int{math.MinInt, -1, 0, math.MaxInt}
	y := listOf(t, 0, math.MaxInt, -1, math.MinInt)
	y.wantKeys(t, keys...)
	y.wantSlots(t, 3, 2, 0, 1)
	for _, key := range keys {
		f := y.find(t, key)
		y.finish(t, 1)
		if there, cur, _ := f.Found(); !there || int(y.word(y.valueAt(cur))) != key {
			t.Errorf("%d: %+v", key, foundBy(f))
		}
	}
	for key, want := range map[int]int{math.MinInt + 1: 2, -2: 2, 1: 1, math.MaxInt - 1: 1} {
		f := y.find(t, key)
		y.finish(t, 1)
		if there, cur, _ := f.Found(); there || cur != want {
			t.Errorf("%d: %+v, not at slot %d", key, foundBy(f), want)
		}
	}
}

// P8.1: the root may be any address that there is; a Find from a bucket's word, or from a slot's link,
// knows nothing of the word Root.
func TestFindFromOtherRoots(t *testing.T) {
	y := listOf(t, 5, 7)
	bucket := y.addr(api.RegionBucket, 0, 0)
	f := list.Find(y.Hazards, 1, bucket, 5)
	y.begin(t, 1, f)
	from := y.accesses()
	y.finish(t, 1)
	y.wantSeen(t, from, load(1, bucket, 0))
	wantFound(t, f, found{false, -1, y.begun(1) + 1, bucket, 0, 0})

	f = list.Find(y.Hazards, 1, y.linkAt(0), 7)
	y.begin(t, 1, f)
	from = y.accesses()
	y.finish(t, 1)
	k := track{y, 1}
	y.wantSeen(t, from, slices.Concat(
		[]api.Access{load(1, y.linkAt(0), link(1)), store(1, y.hazardAt(1, 1), link(1)), load(1, y.linkAt(0), link(1))},
		k.look(y.linkAt(0), 1, 0, 7))...)
	wantFound(t, f, found{true, 1, y.begun(1) + 6, y.linkAt(0), link(1), 0})

	last := y.linkAt(y.c.Slots - 1) // the last address that there is
	f = list.Find(y.Hazards, 1, last, 7)
	y.begin(t, 1, f)
	y.finish(t, 1)
	wantFound(t, f, found{false, -1, y.begun(1) + 1, last, 0, 0})
}

// F3: the root is another word than before: F1 next.
func TestFindWhoseRootChanges(t *testing.T) {
	y := listOf(t, 5)
	k := track{y, 1}
	f := y.find(t, 5)
	y.steps(t, 1, 2)
	y.call(t, insert(0, 3))
	from := y.accesses()
	y.finish(t, 1)
	y.wantSeen(t, from, slices.Concat([]api.Access{load(1, rootAddr, link(1))},
		k.first(link(1)), k.look(rootAddr, 1, link(0), 3), k.pass(1, 0), k.look(y.linkAt(1), 0, 0, 5))...)
	wantFound(t, f, found{true, 0, y.last(1).End - 2, y.linkAt(1), link(0), 0})
}

// F3, and F1 again: the list is empty by then; nothing was seen of a slot.
func TestFindWhoseListIsEmptied(t *testing.T) {
	y := listOf(t, 5)
	f := y.find(t, 5)
	y.steps(t, 1, 2)
	y.call(t, remove(0, 5))
	from := y.accesses()
	y.finish(t, 1)
	y.wantSeen(t, from, load(1, rootAddr, 0), load(1, rootAddr, 0))
	wantFound(t, f, found{false, -1, y.last(1).End, rootAddr, 0, 0})
}

// F6: cur's link is another word than before, by a slot that comes behind it, or by a mark: F1 next.
func TestFindWhoseLinkChanges(t *testing.T) {
	y := listOf(t, 5)
	k := track{y, 1}
	f := y.find(t, 6)
	y.steps(t, 1, 5)
	y.call(t, insert(0, 6))
	from := y.accesses()
	y.finish(t, 1)
	y.wantSeen(t, from, slices.Concat([]api.Access{load(1, y.linkAt(0), link(1))},
		k.first(link(0)), k.look(rootAddr, 0, link(1), 5), k.pass(0, 1), k.look(y.linkAt(0), 1, 0, 6))...)
	wantFound(t, f, found{true, 1, y.last(1).End - 2, y.linkAt(0), link(1), 0})

	y = listOf(t, 5)
	k = track{y, 1}
	f = y.find(t, 5)
	y.steps(t, 1, 5)
	y.mark(t, 0)
	from = y.accesses()
	y.finish(t, 1)
	y.wantSeen(t, from, slices.Concat([]api.Access{load(1, y.linkAt(0), marked(-1))},
		k.first(link(0)), k.look(rootAddr, 0, marked(-1), 5), k.unlink(rootAddr, 0, marked(-1)))...)
	wantFound(t, f, found{false, -1, y.last(1).End, rootAddr, 0, marked(-1)})
}

// F6, and F1 again: what was seen of a link ahead of it isn't told.
func TestFindThatForgetsALink(t *testing.T) {
	y := listOf(t, 5, 7)
	f := y.find(t, 5)
	y.steps(t, 1, 5)
	y.calls(t, remove(0, 5), remove(0, 7))
	from := y.accesses()
	y.finish(t, 1)
	y.wantSeen(t, from, load(1, y.linkAt(0), marked(1)), load(1, rootAddr, 0))
	wantFound(t, f, found{false, -1, y.last(1).End, rootAddr, 0, 0})
}

// F8: the word ahead is another than before: F1 next, whatever the key.
func TestFindWhoseWordAheadChanges(t *testing.T) {
	for _, key := range []int{4, 5, 6} {
		y := listOf(t, 5)
		k := track{y, 1}
		y.find(t, key)
		y.steps(t, 1, 7)
		y.call(t, insert(0, 1))
		from := y.accesses()
		y.finish(t, 1)
		y.wantSeen(t, from, slices.Concat([]api.Access{load(1, rootAddr, link(1))},
			k.first(link(1)), k.look(rootAddr, 1, link(0), 1), k.pass(1, 0), k.look(y.linkAt(1), 0, 0, 5))...)
	}
	// And ahead of a later slot, by a mark: F1 is from the root again.
	y := listOf(t, 5, 7)
	k := track{y, 1}
	f := y.find(t, 7)
	y.steps(t, 1, 14)
	y.mark(t, 0)
	from := y.accesses()
	y.finish(t, 1)
	y.wantSeen(t, from, slices.Concat([]api.Access{load(1, y.linkAt(0), marked(1))},
		k.first(link(0)), k.look(rootAddr, 0, marked(1), 5), k.unlink(rootAddr, 0, marked(1)), k.name(1), k.look(rootAddr, 1, 0, 7))...)
	wantFound(t, f, found{true, 1, y.last(1).End - 2, rootAddr, link(1), 0})
}

// F8: the word ahead of a marked slot changes: it is not taken out.
func TestFindWhoseWordAheadOfAMarkedSlotChanges(t *testing.T) {
	y := listOf(t, 5)
	y.mark(t, 0)
	k := track{y, 1}
	y.find(t, 5)
	y.steps(t, 1, 7)
	y.calls(t, poked(0, y.valueAt(1), 3), poked(0, y.linkAt(1), link(0)), poked(0, rootAddr, link(1)))
	from := y.accesses()
	y.finish(t, 1)
	y.wantSeen(t, from, slices.Concat([]api.Access{load(1, rootAddr, link(1))}, k.first(link(1)), k.look(rootAddr, 1, link(0), 3),
		k.pass(1, 0), k.look(y.linkAt(1), 0, marked(-1), 5), k.unlink(y.linkAt(1), 0, marked(-1)))...)
}

// F11 and F12: a marked slot with one behind it is taken out and retired, whatever its key; the part goes
// on with the one behind it.
func TestFindPastAMarkedSlot(t *testing.T) {
	for _, c := range []struct {
		key  int
		want found
	}{
		{3, found{there: false, cur: 1, point: 15}},
		{5, found{there: false, cur: 1, point: 15}},
		{6, found{there: false, cur: 1, point: 15}},
		{7, found{there: true, cur: 1, point: 13}},
	} {
		y := listOf(t, 5, 7)
		y.mark(t, 0)
		k := track{y, 1}
		shifts := y.shifts()
		f := y.findWhole(t, c.key, k.first(link(0)), k.look(rootAddr, 0, marked(1), 5), k.unlink(rootAddr, 0, marked(1)), k.name(1),
			k.look(rootAddr, 1, 0, 7))
		c.want.point += y.begun(1)
		c.want.at, c.want.saw = rootAddr, link(1)
		wantFound(t, f, c.want)
		y.wantShifts(t, shifts, shift(1, 0, api.StateLinked, api.StateDetached), shift(1, 0, api.StateDetached, api.StateRetired))
		y.wantList(t, 1, 0)
		y.wantSlots(t, 1)
	}
}

// F11: with none behind it the key is absent at the move of F11; Next tells the marked slot's link.
func TestFindPastTheLastMarkedSlot(t *testing.T) {
	y := listOf(t, 5)
	y.mark(t, 0)
	k := track{y, 1}
	f := y.findWhole(t, 5, k.first(link(0)), k.look(rootAddr, 0, marked(-1), 5), k.unlink(rootAddr, 0, marked(-1)))
	wantFound(t, f, found{false, -1, y.begun(1) + 9, rootAddr, 0, marked(-1)})

	// Behind another one: the word ahead is that one's link.
	y = listOf(t, 5, 7)
	y.mark(t, 1)
	k = track{y, 1}
	f = y.findWhole(t, 9, k.first(link(0)), k.look(rootAddr, 0, link(1), 5), k.pass(0, 1), k.look(y.linkAt(0), 1, marked(-1), 7),
		k.unlink(y.linkAt(0), 1, marked(-1)))
	wantFound(t, f, found{false, -1, y.begun(1) + 16, y.linkAt(0), 0, marked(-1)})
	y.wantSlots(t, 0)
}

// F11: several marked slots are taken out one behind the other; the word ahead stays.
func TestFindPastMarkedSlots(t *testing.T) {
	y := listOf(t, 1, 3, 5, 7)
	y.mark(t, 1, 2)
	k := track{y, 1}
	f := y.findWhole(t, 7, k.first(link(0)), k.look(rootAddr, 0, link(1), 1), k.pass(0, 1),
		k.look(y.linkAt(0), 1, marked(2), 3), k.unlink(y.linkAt(0), 1, marked(2)), k.name(2),
		k.look(y.linkAt(0), 2, marked(3), 5), k.unlink(y.linkAt(0), 2, marked(3)), k.name(3),
		k.look(y.linkAt(0), 3, 0, 7))
	wantFound(t, f, found{true, 3, y.last(1).End - 2, y.linkAt(0), link(3), 0})
	y.wantList(t, 1, 1, 2)
	y.wantSlots(t, 0, 3)
}

// F11: the swap fails, as another thread has taken the slot out: nothing is retired, F1 next.
func TestFindOvertaken(t *testing.T) {
	y := listOf(t, 5, 7)
	y.mark(t, 0)
	k := track{y, 1}
	f := y.find(t, 7)
	y.steps(t, 1, 8)
	y.call(t, contains(0, 7))
	from, shifts := y.accesses(), y.shifts()
	y.finish(t, 1)
	y.wantSeen(t, from, slices.Concat([]api.Access{swap(1, rootAddr, link(0), link(1), link(1))},
		k.first(link(1)), k.look(rootAddr, 1, 0, 7))...)
	wantFound(t, f, found{true, 1, y.last(1).End - 2, rootAddr, link(1), 0})
	y.wantShifts(t, shifts)
	y.wantList(t, 0, 0)
	y.wantList(t, 1)
}

// F11: the list is scanned, if it is long enough: the accesses of Retire come behind the swap, and the
// part's end, or F12, behind them. The own hazard 1 keeps the slot; the point stays the move of F11.
func TestFindThatScans(t *testing.T) {
	scanned := func(k track, named uint64, behind uint64) []api.Access {
		return []api.Access{load(0, k.hazardAt(0, 0), behind), load(0, k.hazardAt(0, 1), named), load(0, k.hazardAt(0, 2), 0)}
	}
	for _, keys := range [][]int{{5}, {5, 7}} {
		behind := len(keys)*2 - 3 // slot 1, or none
		y := yardOf(t, configOf(1, 1, 1, 0, 4))
		y.call(t, register(0))
		y.insertAll(t, keys...)
		y.mark(t, 0)
		k := track{y, 0}
		f := list.Find(y.Hazards, 0, rootAddr, 5)
		y.begin(t, 0, f)
		from, shifts := y.accesses(), y.shifts()
		y.steps(t, 0, 11)
		wantFound(t, f, nothing)
		y.finish(t, 0)
		want := slices.Concat(k.first(link(0)), k.look(rootAddr, 0, marked(behind), 5), k.unlink(rootAddr, 0, marked(behind)),
			scanned(k, link(0), link(behind)))
		told := found{false, -1, y.begun(0) + 9, rootAddr, 0, marked(-1)}
		if behind >= 0 {
			want = slices.Concat(want, k.name(1), k.look(rootAddr, 1, 0, 7))
			told = found{false, 1, y.begun(0) + 18, rootAddr, link(1), 0}
		}
		y.wantSeen(t, from, want...)
		wantFound(t, f, told)
		y.wantShifts(t, shifts, shift(0, 0, api.StateLinked, api.StateDetached), shift(0, 0, api.StateDetached, api.StateRetired))
		y.wantList(t, 0, 0)
	}
}

// F11: a scan gives back what waited in the list and is not named any more.
func TestFindWhoseScanGivesBack(t *testing.T) {
	y := yardOf(t, configOf(1, 1, 1, 0, 4))
	y.call(t, register(0))
	y.insertAll(t, 1, 3)
	y.call(t, remove(0, 1)) // its own hazard keeps slot 0
	y.wantList(t, 0, 0)
	y.mark(t, 1)
	f := list.Find(y.Hazards, 0, rootAddr, 3)
	y.begin(t, 0, f)
	steps := y.finish(t, 0)
	if steps != 9+3+3 {
		t.Errorf("%d steps", steps)
	}
	wantFound(t, f, found{false, -1, y.begun(0) + 9, rootAddr, 0, marked(-1)})
	y.wantState(t, 0, api.StateFree, -1)
	y.wantState(t, 1, api.StateRetired, 0)
	y.wantList(t, 0, 1)
}

// The hazards as the part goes on: what was looked at is in the higher one ahead of the lower one's being
// written over (P8.13); the part leaves them as they are.
func TestFindsHazards(t *testing.T) {
	y := listOf(t, 1, 3, 5, 7)
	y.find(t, 7)
	names := [3]int{-1, -1, -1}
	want := map[int][3]int{ // behind which step they change, and to what
		2: {-1, 0, -1}, 5: {1, 0, -1}, 9: {1, 0, 0}, 10: {1, 1, 0}, 12: {2, 1, 0}, 16: {2, 1, 1}, 17: {2, 2, 1},
		19: {3, 2, 1}, 23: {3, 2, 2}, 24: {3, 3, 2}, 26: {-1, 3, 2},
	}
	for step := 1; y.m.Busy(1); step++ {
		y.steps(t, 1, 1)
		if change, ok := want[step]; ok {
			names = change
		}
		for k, slot := range names {
			if got := y.word(y.hazardAt(1, k)); got != link(slot) {
				t.Errorf("behind step %d hazard %d is %x, not %x", step, k, got, link(slot))
			}
		}
	}
}

// A slot that a Find looks at is kept from coming back, though it is taken out and retired meanwhile: with
// a link that was seen, the part finds out by F6 or F8, not by a slot that is in use again.
func TestFindKeepsItsSlots(t *testing.T) {
	for steps := 3; steps < 8; steps++ {
		y := yardOf(t, configOf(2, 2, 1, 0, 3))
		y.calls(t, register(0), register(1))
		y.insertAll(t, 5)
		f := y.find(t, 5)
		y.steps(t, 1, steps)
		y.calls(t, remove(0, 5), insert(0, 6), remove(0, 6), scan(0))
		y.wantState(t, 0, api.StateRetired, 0)
		y.finish(t, 1)
		if got := foundBy(f); got.there || got.cur != -1 || got.at != rootAddr {
			t.Errorf("behind %d steps: %+v", steps, got)
		}
	}
}

// P8.2: a part that has ended does nothing more, and tells the same.
func TestFindThatHasEnded(t *testing.T) {
	y := listOf(t, 5)
	f := y.find(t, 5)
	y.finish(t, 1)
	told := foundBy(f)
	before := y.m.Run()
	y.begin(t, 1, f)
	if steps := y.finish(t, 1); steps != 1 {
		t.Errorf("%d steps more", steps)
	}
	y.wantOnlyCalls(t, before)
	wantFound(t, f, told)
	if !f.Ready(nil) || !f.Step(nil) {
		t.Error("it has not ended")
	}
}

// Two parts, and the parts of two threads, know nothing of one another.
func TestFindsApart(t *testing.T) {
	y := listOf(t, 5, 7)
	mine, other := list.Find(y.Hazards, 0, rootAddr, 5), list.Find(y.Hazards, 1, rootAddr, 7)
	y.begin(t, 0, mine)
	y.begin(t, 1, other)
	for y.m.Busy(0) || y.m.Busy(1) {
		y.m.Move(step(0))
		y.m.Move(step(1))
	}
	if got := foundBy(mine); !got.there || got.cur != 0 {
		t.Errorf("%+v", got)
	}
	if got := foundBy(other); !got.there || got.cur != 1 {
		t.Errorf("%+v", got)
	}
}
