package table_test

import (
	"slices"
	"testing"

	"reclaim/api"
)

// OpRemove of a key that is there: first in its bucket, between two, last.
func TestRemove(t *testing.T) {
	keys := []int{5, 7, 9}
	for slot, key := range keys {
		y := tableOf(t, keys...)
		k := y.track(1, key)
		at, want := k.root, k.first(0)
		for i := range slot {
			want = slices.Concat(want, k.look(at, i, link(i+1), keys[i]), k.pass(i, i+1))
			at = y.linkAt(i)
		}
		x := link(slot + 1)
		if slot == 2 {
			x = 0
		}
		want = slices.Concat(want, k.look(at, slot, x, key), k.out(at, slot, x, 10*key), k.leave())
		from, shifts := y.accesses(), y.shifts()
		got := y.call(t, api.Move{Thread: 1, Op: api.OpRemove, Arg: key, Data: 77})
		if got.Answer != value(10*key) || got.Point != got.End-5 || got.Data != 77 {
			t.Errorf("%+v", got)
		}
		y.wantSeen(t, from, want...)
		y.wantShifts(t, shifts, shift(1, slot, api.StateLinked, api.StateDetached), shift(1, slot, api.StateDetached, api.StateRetired))
		y.wantList(t, 1, slot)
		y.wantTens(t, slices.Delete(slices.Clone(keys), slot, slot+1)...)
		if w := y.word(y.linkAt(slot)); w != x|markBit {
			t.Errorf("the link of slot %d is %x", slot, w)
		}
	}
}

// The point is the move of the swap that puts the mark, and stands from there on, not that of Find; the
// answer from the end on.
func TestRemovesPoint(t *testing.T) {
	y := tableOf(t, 5)
	y.make(t, remove(1, 5))
	y.steps(t, 1, 8)
	y.wantOnWay(t, 1)
	for range 6 {
		y.steps(t, 1, 1)
		if got := y.last(1); got.Point != got.Begin+9 || (got.End < 0) != (got.Answer == api.Answer{}) {
			t.Errorf("%+v", got)
		}
	}
	if got := y.last(1); got.End != got.Begin+14 || got.Answer != value(50) {
		t.Errorf("%+v", got)
	}
}

// A key that isn't there: No, at Find's point, which stands from Find's end on.
func TestRemoveOfAKeyThatIsNotThere(t *testing.T) {
	for _, c := range []struct{ key, point, ended int }{
		{3, 8, 8}, {7, 15, 15}, {11, 13, 15}, {4, 1, 1},
	} {
		y := tableOf(t, 5, 9)
		shifts := y.shifts()
		y.make(t, remove(1, c.key))
		y.steps(t, 1, c.ended-1)
		y.wantOnWay(t, 1)
		y.steps(t, 1, 1)
		if got := y.last(1); got.Point != got.Begin+c.point || got.End != -1 {
			t.Errorf("%+v", got)
		}
		from := y.accesses()
		y.finish(t, 1)
		y.wantSeen(t, from, y.track(1, c.key).leave()...)
		if got := y.last(1); got.Answer != no || got.Point != got.Begin+c.point || got.End != got.Begin+c.ended+3 {
			t.Errorf("%+v", got)
		}
		y.wantShifts(t, shifts)
		y.wantTens(t, 5, 9)
	}
}

// A key whose slot has a mark isn't there; the slot is taken out on the way.
func TestRemoveOfAMarkedSlot(t *testing.T) {
	y := tableOf(t, 5)
	y.mark(t, 0)
	got := y.call(t, remove(1, 5))
	if got.Answer != no || got.Point != got.Begin+9 || got.End != got.Begin+12 {
		t.Errorf("%+v", got)
	}
	y.wantList(t, 1, 0)
	y.wantSlots(t, 1)
}

// The swap of the slot's link is overtaken by a slot that comes behind: Find anew.
func TestRemoveWhoseMarkIsOvertaken(t *testing.T) {
	y := tableOf(t, 5)
	k := y.track(1, 5)
	y.make(t, remove(1, 5))
	y.steps(t, 1, 8)
	y.call(t, add(0, 7, 70))
	from, shifts := y.accesses(), y.shifts()
	y.steps(t, 1, 1)
	y.wantOnWay(t, 1)
	y.finish(t, 1)
	y.wantSeen(t, from, slices.Concat([]api.Access{swap(1, y.linkAt(0), 0, marked(-1), link(1))},
		k.first(0), k.look(k.root, 0, link(1), 5), k.out(k.root, 0, link(1), 50), k.leave())...)
	y.wantShifts(t, shifts, shift(1, 0, api.StateLinked, api.StateDetached), shift(1, 0, api.StateDetached, api.StateRetired))
	if got := y.last(1); got.Answer != value(50) || got.Point != got.End-5 {
		t.Errorf("%+v", got)
	}
	y.wantTens(t, 7)
}

// It is overtaken by another Remove: by then the key isn't there; or it is there anew, in another slot, with
// another value.
func TestRemoveOvertakenByAnother(t *testing.T) {
	for _, anew := range []bool{false, true} {
		y := tableOf(t, 5)
		k := y.track(1, 5)
		y.make(t, remove(1, 5))
		y.steps(t, 1, 8)
		y.call(t, remove(0, 5))
		y.wantAnswer(t, 0, value(50))
		want := []api.Access{swap(1, y.linkAt(0), 0, marked(-1), marked(-1)), load(1, k.root, 0)}
		answer, point := no, 3
		if anew {
			y.call(t, add(0, 5, 51))
			want = slices.Concat(want[:1], k.first(1), k.look(k.root, 1, 0, 5), k.out(k.root, 1, 0, 51))
			answer, point = value(51), 5
		}
		from := y.accesses()
		y.finish(t, 1)
		y.wantSeen(t, from, slices.Concat(want, k.leave())...)
		if got := y.last(1); got.Answer != answer || got.Point != got.End-point {
			t.Errorf("%+v", got)
		}
		y.wantList(t, 0, 0)
		y.wantPairs(t, nil)
	}
}

// The swap of the word ahead is overtaken by a slot that comes there: a Find anew takes the slot out; what
// the load between the swaps saw is answered.
func TestRemoveWhoseSwapIsOvertaken(t *testing.T) {
	y := tableOf(t, 5)
	k := y.track(1, 5)
	y.make(t, remove(1, 5))
	y.steps(t, 1, 8)
	y.call(t, add(0, 3, 30))
	y.steps(t, 1, 1)
	point := y.m.Moves() - 1
	from, shifts := y.accesses(), y.shifts()
	y.finish(t, 1)
	y.wantSeen(t, from, slices.Concat(k.see(0, 50), []api.Access{swap(1, k.root, link(0), 0, link(1))},
		k.first(1), k.look(k.root, 1, link(0), 3), k.pass(1, 0), k.look(y.linkAt(1), 0, marked(-1), 5),
		k.unlink(y.linkAt(1), 0, marked(-1)), k.leave())...)
	y.wantShifts(t, shifts, shift(1, 0, api.StateLinked, api.StateDetached), shift(1, 0, api.StateDetached, api.StateRetired))
	if got := y.last(1); got.Answer != value(50) || got.Point != point {
		t.Errorf("%+v, not %d", got, point)
	}
	y.wantTens(t, 3)
	y.wantList(t, 1, 0)
}

// It is overtaken by a thread that has taken the slot out: a Find anew, whose answer is not looked at, though
// it finds the key again with another value, or its place. What the load saw is answered all the same.
func TestRemoveWhoseSlotIsTakenOut(t *testing.T) {
	for _, back := range []bool{true, false} {
		for loads := range 2 { // the other thread comes ahead of the load, or behind it
			y := tableOf(t, 5, 7)
			k := y.track(1, 5)
			y.make(t, remove(1, 5))
			y.steps(t, 1, 9+loads)
			point := y.last(1).Begin + 9
			y.call(t, get(0, 5))
			y.wantAnswer(t, 0, no)
			root, key, x, left := 1, 7, uint64(0), map[int]int{7: 70}
			if back {
				y.call(t, add(0, 5, 55))
				root, key, x, left[5] = 2, 5, link(1), 55
			}
			from, shifts := y.accesses(), y.shifts()
			y.finish(t, 1)
			y.wantSeen(t, from, slices.Concat(k.see(0, 50)[loads:], []api.Access{swap(1, k.root, link(0), link(1), link(root))},
				k.first(root), k.look(k.root, root, x, key), k.leave())...)
			y.wantShifts(t, shifts)
			if got := y.last(1); got.Answer != value(50) || got.Point != point {
				t.Errorf("%+v, not %d", got, point)
			}
			y.wantList(t, 0, 0)
			y.wantList(t, 1)
			y.wantPairs(t, left)
		}
	}
}

// The Find behind that swap is itself overtaken, and begins again.
func TestRemoveWhoseSecondFindIsOvertaken(t *testing.T) {
	y := tableOf(t, 5)
	k := y.track(1, 5)
	y.make(t, remove(1, 5))
	y.steps(t, 1, 10)
	y.call(t, poked(0, k.root, 0))
	y.steps(t, 1, 1)
	y.call(t, poked(0, k.root, link(0)))
	y.steps(t, 1, 2)
	y.call(t, poked(0, k.root, 0))
	from := y.accesses()
	y.finish(t, 1)
	y.wantSeen(t, from, slices.Concat([]api.Access{load(1, k.root, 0), load(1, k.root, 0)}, k.leave())...)
	y.wantAnswer(t, 1, value(50))
}

// A Remove's own hazard 1 names the slot that it retires: a scan keeps it till the next one.
func TestRemoveThatScans(t *testing.T) {
	y := yardOf(t, configOf(1, 1, 2, 0, 4, 2))
	y.call(t, register(0))
	y.addAll(t, 1, 3, 5)
	got := y.call(t, remove(0, 1))
	if got.Answer != value(10) || got.End-got.Begin != 14 {
		t.Errorf("%+v", got)
	}
	y.wantList(t, 0, 0)
	got = y.call(t, remove(0, 3)) // it gives slot 0 back, and keeps slot 1
	if got.Answer != value(30) || got.End-got.Begin != 14+3+3 || got.Point != got.Begin+9 {
		t.Errorf("%+v", got)
	}
	y.wantList(t, 0, 1)
	y.wantState(t, 0, api.StateFree, -1)
	y.wantState(t, 1, api.StateRetired, 0)
	y.wantTens(t, 5)
}
