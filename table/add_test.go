package table_test

import (
	"math"
	"slices"
	"testing"

	"reclaim/api"
)

// OpAdd of a key that isn't there: Insert at its bucket's root, into an empty bucket, above all keys of it,
// between two, below all. The other bucket is not looked at.
func TestAdd(t *testing.T) {
	y := tableOf(t, 4)
	k := y.track(1, 5)
	for _, c := range []struct {
		key, data int
		want      []api.Access
	}{
		{5, 50, slices.Concat([]api.Access{load(1, k.root, 0)}, k.take(1, 1, 2), k.fill(1, 5, 50), k.put(k.root, 0, 1))},
		{9, -90, slices.Concat(k.first(1), k.look(k.root, 1, 0, 5), k.take(2, 2, 3), k.fill(2, 9, -90), k.put(y.linkAt(1), 0, 2))},
		{7, 0, slices.Concat(k.first(1), k.look(k.root, 1, link(2), 5), k.pass(1, 2), k.look(y.linkAt(1), 2, 0, 9),
			k.take(3, 3, 4), k.fill(3, 7, 0), k.put(y.linkAt(1), link(2), 3))},
		{-3, 7, slices.Concat(k.first(1), k.look(k.root, 1, link(3), 5), k.take(4, 4, 5), k.fill(4, -3, 7), k.put(k.root, link(1), 4))},
	} {
		from, shifts := y.accesses(), y.shifts()
		got := y.call(t, add(1, c.key, c.data))
		if got.Answer != yes || got.Point != got.End-3 || got.Data != c.data {
			t.Errorf("%+v", got)
		}
		y.wantSeen(t, from, slices.Concat(c.want, k.leave())...)
		slot := y.a.Count(api.StateLinked) - 1
		y.wantShifts(t, shifts, shift(1, slot, api.StateFree, api.StateOwned), shift(1, slot, api.StateOwned, api.StateLinked))
		y.wantState(t, slot, api.StateLinked, -1)
	}
	y.wantPairs(t, map[int]int{4: 40, -3: 7, 5: 50, 7: 0, 9: -90})
	y.wantSlots(t, 0, 0)
	y.wantSlots(t, 1, 4, 1, 3, 2)
}

// P4: keys and values may be any int.
func TestAddOfAnyInt(t *testing.T) {
	ints := []int{0, 1, -1, math.MaxInt, math.MinInt}
	for _, buckets := range []int{1, 2, 3} {
		y := yardOf(t, configOf(1, 1, 9, 0, 6, buckets))
		y.call(t, register(0))
		want := map[int]int{}
		for i, key := range ints {
			data := ints[(i+3)%len(ints)]
			if got := y.call(t, add(0, key, data)); got.Answer != yes {
				t.Errorf("%+v", got)
			}
			want[key] = data
		}
		y.wantPairs(t, want)
		for key, data := range want {
			if got := y.call(t, get(0, key)); got.Answer != value(data) {
				t.Errorf("%+v, not %d", got, data)
			}
			if got := y.call(t, remove(0, key)); got.Answer != value(data) {
				t.Errorf("%+v, not %d", got, data)
			}
		}
		y.wantPairs(t, nil)
	}
}

// The point is the swap's move, and stands from there on; the answer from the end on.
func TestAddsPoint(t *testing.T) {
	y := tableOf(t)
	y.make(t, add(1, 5, 50))
	y.steps(t, 1, 7)
	y.wantOnWay(t, 1)
	y.steps(t, 1, 1)
	for range 3 {
		if got := y.last(1); got.Point != got.Begin+8 || got.End != -1 || got.Answer != (api.Answer{}) {
			t.Errorf("%+v", got)
		}
		y.steps(t, 1, 1)
	}
	if got := y.last(1); got.Point != got.Begin+8 || got.End != got.Begin+11 || got.Answer != yes {
		t.Errorf("%+v", got)
	}
}

// A key that is there: No, at Find's point, which stands from Find's end on; its value stays, and no slot is
// taken.
func TestAddOfAKeyThatIsThere(t *testing.T) {
	y := tableOf(t, 5, 7)
	k := y.track(1, 7)
	from, shifts := y.accesses(), y.shifts()
	y.make(t, add(1, 7, 71))
	y.steps(t, 1, 14)
	y.wantOnWay(t, 1)
	y.steps(t, 1, 1)
	if got := y.last(1); got.Point != got.Begin+13 || got.End != -1 || got.Answer != (api.Answer{}) {
		t.Errorf("%+v", got)
	}
	y.finish(t, 1)
	y.wantSeen(t, from, slices.Concat(k.first(0), k.look(k.root, 0, link(1), 5), k.pass(0, 1), k.look(y.linkAt(0), 1, 0, 7), k.leave())...)
	if got := y.last(1); got.Point != got.Begin+13 || got.End != got.Begin+18 || got.Answer != no {
		t.Errorf("%+v", got)
	}
	y.wantShifts(t, shifts)
	y.wantTens(t, 5, 7)
	if got := y.call(t, get(0, 7)); got.Answer != value(70) {
		t.Errorf("%+v", got)
	}
}

// With no slot left: Leave, then Full; its point is the move of Take's load, and is told with the end alone.
// The slots are of all buckets together.
func TestAddWithNoSlotLeft(t *testing.T) {
	for _, c := range []struct {
		key  int
		load int // the step of Take's load
	}{{4, 2}, {3, 9}, {7, 9}} {
		y := yardOf(t, configOf(1, 1, 1, 0, 1, 2))
		y.call(t, register(0))
		y.addAll(t, 5)
		k := y.track(0, c.key)
		want := []api.Access{load(0, k.root, 0)}
		if c.load > 2 {
			want = slices.Concat(k.first(0), k.look(k.root, 0, 0, 5))
		}
		from, shifts := y.accesses(), y.shifts()
		y.make(t, add(0, c.key, 9))
		for range c.load + 2 {
			y.steps(t, 0, 1)
			y.wantOnWay(t, 0)
		}
		y.steps(t, 0, 1)
		if got := y.last(0); got.Answer != full || got.Point != got.Begin+c.load || got.End != got.Begin+c.load+3 {
			t.Errorf("%+v", got)
		}
		y.wantSeen(t, from, slices.Concat(want, []api.Access{load(0, freeAddr, head(1, -1))}, k.leave())...)
		y.wantShifts(t, shifts)
		y.wantTens(t, 5)
		// A key that is there needs no slot.
		if got := y.call(t, add(0, 5, 9)); got.Answer != no {
			t.Errorf("%+v", got)
		}
	}
}

// The swap is overtaken by another key of the bucket: Find anew; the slot is kept, and its key and data are
// not stored again.
func TestAddOvertaken(t *testing.T) {
	y := tableOf(t)
	k := y.track(1, 5)
	y.make(t, add(1, 5, 50))
	y.steps(t, 1, 7)
	y.call(t, add(0, 3, 30))
	from, shifts := y.accesses(), y.shifts()
	y.steps(t, 1, 1)
	y.wantOnWay(t, 1)
	y.finish(t, 1)
	y.wantSeen(t, from, slices.Concat([]api.Access{swap(1, k.root, 0, link(0), link(1))}, k.first(1), k.look(k.root, 1, 0, 3),
		k.put(y.linkAt(1), 0, 0), k.leave())...)
	y.wantShifts(t, shifts, shift(1, 0, api.StateOwned, api.StateLinked))
	if got := y.last(1); got.Answer != yes || got.Point != got.End-3 {
		t.Errorf("%+v", got)
	}
	y.wantTens(t, 3, 5)
	y.wantSlots(t, 1, 1, 0)
}

// A key of another bucket doesn't overtake it.
func TestAddBesideAnotherBucket(t *testing.T) {
	y := tableOf(t)
	y.make(t, add(1, 5, 50))
	y.steps(t, 1, 7)
	y.call(t, add(0, 4, 40))
	if steps := y.finish(t, 1); steps != 4 {
		t.Errorf("%d steps more", steps)
	}
	y.wantAnswer(t, 1, yes)
	y.wantTens(t, 4, 5)
	y.wantSlots(t, 0, 1)
	y.wantSlots(t, 1, 0)
}

// It is overtaken by an Add of the same key: the slot is given back, then Leave: No, at the point of the
// second Find; the value is the other one's.
func TestAddOvertakenByTheSameKey(t *testing.T) {
	y := tableOf(t)
	k := y.track(1, 5)
	y.make(t, add(1, 5, 51))
	y.steps(t, 1, 7)
	y.call(t, add(0, 5, 50))
	from, shifts := y.accesses(), y.shifts()
	y.steps(t, 1, 8)
	y.wantOnWay(t, 1)
	y.steps(t, 1, 1)
	if got := y.last(1); got.Point != y.m.Moves()-3 || got.End != -1 {
		t.Errorf("%+v", got)
	}
	y.finish(t, 1)
	y.wantSeen(t, from, slices.Concat([]api.Access{swap(1, k.root, 0, link(0), link(1))}, k.first(1), k.look(k.root, 1, 0, 5),
		k.give(2, 0, 2), k.leave())...)
	y.wantShifts(t, shifts, shift(1, 0, api.StateOwned, api.StateFree))
	if got := y.last(1); got.Answer != no || got.Point != got.End-8 {
		t.Errorf("%+v", got)
	}
	y.wantTens(t, 5)
}

// An Add takes the marked slots on its way out; one of the same key doesn't stand in its way.
func TestAddPastAMarkedSlot(t *testing.T) {
	y := tableOf(t, 5, 7)
	y.mark(t, 0)
	k := y.track(1, 5)
	from := y.accesses()
	got := y.call(t, add(1, 5, 55))
	if got.Answer != yes || got.Point != got.End-3 {
		t.Errorf("%+v", got)
	}
	y.wantSeen(t, from, slices.Concat(k.first(0), k.look(k.root, 0, marked(1), 5), k.unlink(k.root, 0, marked(1)), k.name(1),
		k.look(k.root, 1, 0, 7), k.take(2, 2, 3), k.fill(2, 5, 55), k.put(k.root, link(1), 2), k.leave())...)
	y.wantPairs(t, map[int]int{5: 55, 7: 70})
	y.wantSlots(t, 1, 2, 1)
	y.wantList(t, 1, 0)
}
