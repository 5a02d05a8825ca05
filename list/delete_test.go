package list_test

import (
	"slices"
	"testing"

	"reclaim/api"
)

// out are the lines D1 and D2, succeeding.
func (k track) out(at int, slot int, x uint64) []api.Access {
	return []api.Access{swap(k.thread, k.linkAt(slot), x, x|markBit, x), swap(k.thread, at, link(slot), x, link(slot))}
}

// P8.6: a key that is there: first, between two, last.
func TestDelete(t *testing.T) {
	keys := []int{5, 7, 9}
	for slot, key := range keys {
		y := listOf(t, keys...)
		k := track{y, 1}
		at, want := rootAddr, k.first(link(0))
		for i := range slot {
			want = slices.Concat(want, k.look(at, i, link(i+1), keys[i]), k.pass(i, i+1))
			at = y.linkAt(i)
		}
		x := link(slot + 1)
		if slot == 2 {
			x = 0
		}
		want = slices.Concat(want, k.look(at, slot, x, key), k.out(at, slot, x), k.leave())
		from, shifts := y.accesses(), y.shifts()
		got := y.call(t, api.Move{Thread: 1, Op: api.OpDelete, Arg: key, Data: 77})
		if got.Answer != yes || got.Point != got.End-4 || got.Data != 77 {
			t.Errorf("%+v", got)
		}
		y.wantSeen(t, from, want...)
		y.wantShifts(t, shifts, shift(1, slot, api.StateLinked, api.StateDetached), shift(1, slot, api.StateDetached, api.StateRetired))
		y.wantList(t, 1, slot)
		left := slices.Delete(slices.Clone(keys), slot, slot+1)
		y.wantKeys(t, left...)
		if w := y.word(y.linkAt(slot)); w != x|markBit {
			t.Errorf("the link of slot %d is %x", slot, w)
		}
	}
}

// P8.6: the point is the move of D1, and stands from there on; the answer from the end on.
func TestDeletesPoint(t *testing.T) {
	y := listOf(t, 5)
	y.make(t, remove(1, 5))
	y.steps(t, 1, 8)
	y.wantOnWay(t, 1)
	for range 5 {
		y.steps(t, 1, 1)
		if got := y.last(1); got.Point != got.Begin+9 || (got.End < 0) != (got.Answer == api.Answer{}) {
			t.Errorf("%+v", got)
		}
	}
	if got := y.last(1); got.End != got.Begin+13 || got.Answer != yes {
		t.Errorf("%+v", got)
	}
}

// P8.6: a key that isn't there: No, at Find's point, which stands from Find's end on.
func TestDeleteOfAKeyThatIsNotThere(t *testing.T) {
	for _, c := range []struct{ key, point, ended int }{
		{4, 8, 8}, {6, 15, 15}, {8, 13, 15},
	} {
		y := listOf(t, 5, 7)
		shifts := y.shifts()
		y.make(t, remove(1, c.key))
		y.steps(t, 1, c.ended-1)
		y.wantOnWay(t, 1)
		y.steps(t, 1, 1)
		if got := y.last(1); got.Point != got.Begin+c.point || got.End != -1 {
			t.Errorf("%+v", got)
		}
		from := y.accesses()
		y.finish(t, 1)
		y.wantSeen(t, from, track{y, 1}.leave()...)
		if got := y.last(1); got.Answer != no || got.Point != got.Begin+c.point || got.End != got.Begin+c.ended+3 {
			t.Errorf("%+v", got)
		}
		y.wantShifts(t, shifts)
		y.wantKeys(t, 5, 7)
	}
}

// P8.6: a key whose slot has a mark isn't there; the slot is taken out on the way.
func TestDeleteOfAMarkedSlot(t *testing.T) {
	y := listOf(t, 5)
	y.mark(t, 0)
	got := y.call(t, remove(1, 5))
	if got.Answer != no || got.Point != got.Begin+9 || got.End != got.Begin+12 {
		t.Errorf("%+v", got)
	}
	y.wantList(t, 1, 0)
	y.wantSlots(t)
}

// D1 is overtaken by a slot that comes behind: Find anew.
func TestDeleteWhoseMarkIsOvertaken(t *testing.T) {
	y := listOf(t, 5)
	k := track{y, 1}
	y.make(t, remove(1, 5))
	y.steps(t, 1, 8)
	y.call(t, insert(0, 6))
	from, shifts := y.accesses(), y.shifts()
	y.steps(t, 1, 1)
	y.wantOnWay(t, 1)
	y.finish(t, 1)
	y.wantSeen(t, from, slices.Concat([]api.Access{swap(1, y.linkAt(0), 0, marked(-1), link(1))},
		k.first(link(0)), k.look(rootAddr, 0, link(1), 5), k.out(rootAddr, 0, link(1)), k.leave())...)
	y.wantShifts(t, shifts, shift(1, 0, api.StateLinked, api.StateDetached), shift(1, 0, api.StateDetached, api.StateRetired))
	if got := y.last(1); got.Answer != yes || got.Point != got.End-4 {
		t.Errorf("%+v", got)
	}
	y.wantKeys(t, 6)
}

// D1 is overtaken by another Delete: by then the key isn't there.
func TestDeleteOvertakenByAnother(t *testing.T) {
	y := listOf(t, 5)
	k := track{y, 1}
	y.make(t, remove(1, 5))
	y.steps(t, 1, 8)
	y.call(t, remove(0, 5))
	from, shifts := y.accesses(), y.shifts()
	y.finish(t, 1)
	y.wantSeen(t, from, slices.Concat([]api.Access{swap(1, y.linkAt(0), 0, marked(-1), marked(-1)), load(1, rootAddr, 0)}, k.leave())...)
	y.wantShifts(t, shifts)
	if got := y.last(1); got.Answer != no || got.Point != got.End-3 {
		t.Errorf("%+v", got)
	}
	y.wantList(t, 0, 0)
	y.wantList(t, 1)
}

// D2 is overtaken by a slot that comes ahead: a Find anew takes the slot out.
func TestDeleteWhoseSwapIsOvertaken(t *testing.T) {
	y := listOf(t, 5)
	k := track{y, 1}
	y.make(t, remove(1, 5))
	y.steps(t, 1, 8)
	y.call(t, insert(0, 3))
	y.steps(t, 1, 1)
	point := y.m.Moves() - 1
	from, shifts := y.accesses(), y.shifts()
	y.finish(t, 1)
	y.wantSeen(t, from, slices.Concat([]api.Access{swap(1, rootAddr, link(0), 0, link(1))},
		k.first(link(1)), k.look(rootAddr, 1, link(0), 3), k.pass(1, 0), k.look(y.linkAt(1), 0, marked(-1), 5),
		k.unlink(y.linkAt(1), 0, marked(-1)), k.leave())...)
	y.wantShifts(t, shifts, shift(1, 0, api.StateLinked, api.StateDetached), shift(1, 0, api.StateDetached, api.StateRetired))
	if got := y.last(1); got.Answer != yes || got.Point != point {
		t.Errorf("%+v, not %d", got, point)
	}
	y.wantKeys(t, 3)
	y.wantList(t, 1, 0)
}

// D2 is overtaken by a thread that has taken the slot out: a Find anew, whose answer is not looked at,
// though it finds the key again, or its place.
func TestDeleteWhoseSlotIsTakenOut(t *testing.T) {
	for _, back := range []bool{true, false} {
		y := listOf(t, 5, 7)
		k := track{y, 1}
		y.make(t, remove(1, 5))
		y.steps(t, 1, 9)
		point := y.m.Moves() - 1
		y.call(t, contains(0, 5))
		y.wantAnswer(t, 0, no)
		root, key := link(1), 7
		if back {
			y.insertAll(t, 5)
			root, key = link(2), 5
		}
		from, shifts := y.accesses(), y.shifts()
		y.finish(t, 1)
		x := map[bool]uint64{true: link(1), false: 0}[back]
		y.wantSeen(t, from, slices.Concat([]api.Access{swap(1, rootAddr, link(0), link(1), root)},
			k.first(root), k.look(rootAddr, slotIn(root), x, key), k.leave())...)
		y.wantShifts(t, shifts)
		if got := y.last(1); got.Answer != yes || got.Point != point {
			t.Errorf("%+v, not %d", got, point)
		}
		y.wantList(t, 0, 0)
		y.wantList(t, 1)
	}
}

// The Find behind D2 is itself overtaken, and begins again.
func TestDeleteWhoseSecondFindIsOvertaken(t *testing.T) {
	y := listOf(t, 5)
	y.make(t, remove(1, 5))
	y.steps(t, 1, 9)
	y.call(t, poked(0, rootAddr, 0))
	y.steps(t, 1, 1)
	y.call(t, poked(0, rootAddr, link(0)))
	y.steps(t, 1, 2)
	y.call(t, poked(0, rootAddr, 0))
	from := y.accesses()
	y.finish(t, 1)
	y.wantSeen(t, from, slices.Concat([]api.Access{load(1, rootAddr, 0), load(1, rootAddr, 0)}, track{y, 1}.leave())...)
	y.wantAnswer(t, 1, yes)
}

// A Delete's own hazard 1 names the slot that it retires: a scan keeps it till the next one.
func TestDeleteThatScans(t *testing.T) {
	y := yardOf(t, configOf(1, 1, 2, 0, 4))
	y.call(t, register(0))
	y.insertAll(t, 1, 3, 5)
	got := y.call(t, remove(0, 1))
	if got.Answer != yes || got.End-got.Begin != 13 {
		t.Errorf("%+v", got)
	}
	y.wantList(t, 0, 0)
	got = y.call(t, remove(0, 3)) // it gives slot 0 back, and keeps slot 1
	if got.Answer != yes || got.End-got.Begin != 13+3+3 || got.Point != got.Begin+9 {
		t.Errorf("%+v", got)
	}
	y.wantList(t, 0, 1)
	y.wantState(t, 0, api.StateFree, -1)
	y.wantState(t, 1, api.StateRetired, 0)
	y.wantKeys(t, 5)
}
