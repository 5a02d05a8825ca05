package list_test

import (
	"math"
	"slices"
	"testing"

	"reclaim/api"
	"reclaim/list"
)

// take are the accesses of the part Take that takes a slot off the free list, with the one behind it.
func (k track) take(tag, slot, behind int) []api.Access {
	return []api.Access{load(k.thread, freeAddr, head(tag, slot)), load(k.thread, k.addr(api.RegionSpare, slot, 0), link(behind)),
		swap(k.thread, freeAddr, head(tag, slot), head(tag+1, behind), head(tag, slot))}
}

// give are the accesses of the part Give.
func (k track) give(tag, slot, behind int) []api.Access {
	return []api.Access{load(k.thread, freeAddr, head(tag, behind)), store(k.thread, k.addr(api.RegionSpare, slot, 0), link(behind)),
		swap(k.thread, freeAddr, head(tag, behind), head(tag+1, slot), head(tag, behind))}
}

// fill are the lines I1 and I2.
func (k track) fill(slot, key, data int) []api.Access {
	return []api.Access{store(k.thread, k.valueAt(slot), uint64(key)), store(k.thread, k.dataAt(slot), uint64(data))}
}

// put are the lines I3 and I4, succeeding.
func (k track) put(at int, w uint64, slot int) []api.Access {
	return []api.Access{store(k.thread, k.linkAt(slot), w), swap(k.thread, at, w, link(slot), w)}
}

// P8.4 and P8.5: an Insert of a key that isn't there: below all, between two, above all.
func TestInsert(t *testing.T) {
	y := listOf(t, 5)
	k := track{y, 1}
	for _, c := range []struct {
		key  int
		want []api.Access
	}{
		{9, slices.Concat(k.first(link(0)), k.look(rootAddr, 0, 0, 5), k.take(1, 1, 2), k.fill(1, 9, 0), k.put(y.linkAt(0), 0, 1))},
		{7, slices.Concat(k.first(link(0)), k.look(rootAddr, 0, link(1), 5), k.pass(0, 1), k.look(y.linkAt(0), 1, 0, 9),
			k.take(2, 2, 3), k.fill(2, 7, 0), k.put(y.linkAt(0), link(1), 2))},
		{-3, slices.Concat(k.first(link(0)), k.look(rootAddr, 0, link(2), 5), k.take(3, 3, 4), k.fill(3, -3, 0), k.put(rootAddr, link(0), 3))},
	} {
		from, shifts := y.accesses(), y.shifts()
		got := y.call(t, api.Move{Thread: 1, Op: api.OpInsert, Arg: c.key, Data: 77}) // Data is not looked at
		if got.Answer != yes || got.Point != got.End-3 || got.Data != 77 {
			t.Errorf("%+v", got)
		}
		y.wantSeen(t, from, slices.Concat(c.want, k.leave())...)
		slot := y.a.Count(api.StateLinked) - 1
		y.wantShifts(t, shifts, shift(1, slot, api.StateFree, api.StateOwned), shift(1, slot, api.StateOwned, api.StateLinked))
		y.wantState(t, slot, api.StateLinked, -1)
	}
	y.wantKeys(t, -3, 5, 7, 9)
	y.wantSlots(t, 3, 0, 2, 1)
}

// P8.4: the point is the swap's move, and stands from there on; the answer from the end on.
func TestInsertsPoint(t *testing.T) {
	y := listOf(t)
	y.make(t, insert(1, 5))
	y.steps(t, 1, 7)
	y.wantOnWay(t, 1)
	y.steps(t, 1, 1)
	for range 3 {
		if got := y.last(1); got.Point != got.Begin+8 || got.End != -1 || got.Answer != (api.Answer{}) {
			t.Errorf("%+v", got)
		}
		y.steps(t, 1, 1)
	}
	if got := y.last(1); got.Point != got.Begin+8 || got.End != got.Begin+11 || got.Answer != yes {
		t.Errorf("%+v", got)
	}
}

// P8.4: the data that Inserting is given is stored, at whatever root.
func TestInserting(t *testing.T) {
	for _, data := range []int{0, 1, -1, math.MaxInt, math.MinInt} {
		y := listOf(t)
		k := track{y, 1}
		bucket := y.addr(api.RegionBucket, 0, 0)
		y.begin(t, 1, list.Inserting(y.Hazards, 1, bucket, data, data))
		from := y.accesses()
		y.finish(t, 1)
		y.wantSeen(t, from, slices.Concat([]api.Access{load(1, bucket, 0)}, k.take(0, 0, 1), k.fill(0, data, data), k.put(bucket, 0, 0), k.leave())...)
		y.wantAnswer(t, 1, yes)
		if got := y.last(1); got.Point != got.Begin+8 {
			t.Errorf("%+v", got)
		}
		y.wantKeys(t)
		y.begin(t, 1, list.Inserting(y.Hazards, 1, bucket, data, 3))
		y.finish(t, 1)
		y.wantAnswer(t, 1, no)
		if got := y.word(y.dataAt(0)); got != uint64(data) {
			t.Errorf("the data is %x, not %d", got, data)
		}
	}
}

// P8.4: a key that is there: No, at Find's point, which stands from Find's end on; no slot is taken.
func TestInsertOfAKeyThatIsThere(t *testing.T) {
	y := listOf(t, 5, 7)
	k := track{y, 1}
	from, shifts := y.accesses(), y.shifts()
	y.make(t, insert(1, 7))
	y.steps(t, 1, 14)
	y.wantOnWay(t, 1)
	y.steps(t, 1, 1)
	if got := y.last(1); got.Point != got.Begin+13 || got.End != -1 || got.Answer != (api.Answer{}) {
		t.Errorf("%+v", got)
	}
	y.finish(t, 1)
	y.wantSeen(t, from, slices.Concat(k.first(link(0)), k.look(rootAddr, 0, link(1), 5), k.pass(0, 1), k.look(y.linkAt(0), 1, 0, 7), k.leave())...)
	if got := y.last(1); got.Point != got.Begin+13 || got.End != got.Begin+18 || got.Answer != no {
		t.Errorf("%+v", got)
	}
	y.wantShifts(t, shifts)
	y.wantKeys(t, 5, 7)
}

// P8.4: a slot out of the cache costs no access.
func TestInsertOutOfTheCache(t *testing.T) {
	y := yardOf(t, configOf(1, 1, 1, 1, 3))
	y.call(t, register(0))
	y.insertAll(t, 5)
	y.calls(t, remove(0, 5), scan(0))
	if got := y.a.Cached(0); !slices.Equal(got, []int{0}) {
		t.Fatalf("Cached(0) = %v", got)
	}
	k := track{y, 0}
	from := y.accesses()
	got := y.call(t, insert(0, 6))
	if got.Answer != yes || got.Point != got.Begin+5 || got.End != got.Begin+8 {
		t.Errorf("%+v", got)
	}
	y.wantSeen(t, from, slices.Concat([]api.Access{load(0, rootAddr, 0)}, k.fill(0, 6, 0), k.put(rootAddr, 0, 0), k.leave())...)
	// Slot 0 goes out of the cache in the step in which Find ends.
	shifts := y.m.Run().Shifts
	if last := shifts[len(shifts)-2]; last.Move != got.Begin+1 || last.From != api.StateCached || last.To != api.StateOwned {
		t.Errorf("%+v", last)
	}
}

// P8.4: with no slot left: Leave, then Full; its point is the move of Take's load, and is told with the
// end alone.
func TestInsertWithNoSlotLeft(t *testing.T) {
	for _, c := range []struct {
		key  int
		load int // the step of Take's load
	}{{4, 9}, {6, 9}} {
		y := yardOf(t, configOf(1, 1, 1, 0, 1))
		y.call(t, register(0))
		y.insertAll(t, 5)
		k := track{y, 0}
		from, shifts := y.accesses(), y.shifts()
		y.make(t, insert(0, c.key))
		for range c.load + 2 {
			y.steps(t, 0, 1)
			y.wantOnWay(t, 0)
		}
		y.steps(t, 0, 1)
		if got := y.last(0); got.Answer != full || got.Point != got.Begin+c.load || got.End != got.Begin+c.load+3 {
			t.Errorf("%+v", got)
		}
		y.wantSeen(t, from, slices.Concat(k.first(link(0)), k.look(rootAddr, 0, 0, 5), []api.Access{load(0, freeAddr, head(1, -1))}, k.leave())...)
		y.wantShifts(t, shifts)
		y.wantKeys(t, 5)
		// A key that is there needs no slot.
		if got := y.call(t, insert(0, 5)); got.Answer != no {
			t.Errorf("%+v", got)
		}
	}
}

// P8.4: a Take that is overtaken till there is no slot left: its point is the move of the load that saw none.
func TestInsertWhoseTakeIsOvertaken(t *testing.T) {
	y := yardOf(t, configOf(2, 2, 1, 0, 1))
	y.calls(t, register(0), register(1))
	y.make(t, insert(1, 5))
	y.steps(t, 1, 3)
	y.call(t, insert(0, 5))
	y.steps(t, 1, 2)
	seen := y.m.Moves() - 1
	y.wantOnWay(t, 1)
	y.finish(t, 1)
	if got := y.last(1); got.Answer != full || got.Point != seen || got.End != seen+3 {
		t.Errorf("%+v", got)
	}
}

// P8.4: the swap is overtaken by another key: Find anew; the slot is kept, and its key and data are not
// stored again.
func TestInsertOvertaken(t *testing.T) {
	y := listOf(t)
	k := track{y, 1}
	y.make(t, insert(1, 5))
	y.steps(t, 1, 7)
	y.call(t, insert(0, 3))
	from, shifts := y.accesses(), y.shifts()
	y.steps(t, 1, 1)
	y.wantOnWay(t, 1)
	y.finish(t, 1)
	y.wantSeen(t, from, slices.Concat([]api.Access{swap(1, rootAddr, 0, link(0), link(1))}, k.first(link(1)), k.look(rootAddr, 1, 0, 3),
		k.put(y.linkAt(1), 0, 0), k.leave())...)
	y.wantShifts(t, shifts, shift(1, 0, api.StateOwned, api.StateLinked))
	y.wantAnswer(t, 1, yes)
	y.wantKeys(t, 3, 5)
	if got := y.last(1); got.Point != got.End-3 {
		t.Errorf("%+v", got)
	}
}

// P8.4: it is overtaken twice.
func TestInsertOvertakenTwice(t *testing.T) {
	y := listOf(t)
	y.make(t, insert(1, 5))
	y.steps(t, 1, 7)
	y.call(t, insert(0, 3))
	y.steps(t, 1, 1+3+5+1)
	y.call(t, insert(0, 4))
	from := y.accesses()
	y.finish(t, 1)
	seen := y.m.Run().Trace[from:]
	if first := seen[0]; first.Kind != api.AccessSwap || first.Addr != y.linkAt(1) || first.Saw != link(2) {
		t.Errorf("%+v", first)
	}
	y.wantAnswer(t, 1, yes)
	y.wantKeys(t, 3, 4, 5)
	y.wantSlots(t, 1, 2, 0)
}

// P8.4: it is overtaken by an Insert of the same key: the slot is given back, then Leave: No, at the
// point of the second Find.
func TestInsertOvertakenByTheSameKey(t *testing.T) {
	y := listOf(t)
	k := track{y, 1}
	y.make(t, insert(1, 5))
	y.steps(t, 1, 7)
	y.call(t, insert(0, 5))
	from, shifts := y.accesses(), y.shifts()
	y.steps(t, 1, 8)
	y.wantOnWay(t, 1)
	y.steps(t, 1, 1)
	if got := y.last(1); got.Point != y.m.Moves()-3 || got.End != -1 {
		t.Errorf("%+v", got)
	}
	y.finish(t, 1)
	y.wantSeen(t, from, slices.Concat([]api.Access{swap(1, rootAddr, 0, link(0), link(1))}, k.first(link(1)), k.look(rootAddr, 1, 0, 5),
		k.give(2, 0, 2), k.leave())...)
	y.wantShifts(t, shifts, shift(1, 0, api.StateOwned, api.StateFree))
	if got := y.last(1); got.Answer != no || got.Point != got.End-8 {
		t.Errorf("%+v", got)
	}
	y.wantKeys(t, 5)
}

// P8.4: likewise, but the slot goes into the cache, which costs no access.
func TestInsertThatGivesIntoTheCache(t *testing.T) {
	y := yardOf(t, configOf(2, 2, 9, 1, 4))
	y.calls(t, register(0), register(1))
	k := track{y, 1}
	y.make(t, insert(1, 5))
	y.steps(t, 1, 7)
	y.call(t, insert(0, 5))
	from, shifts := y.accesses(), y.shifts()
	y.finish(t, 1)
	y.wantSeen(t, from, slices.Concat([]api.Access{swap(1, rootAddr, 0, link(0), link(1))}, k.first(link(1)), k.look(rootAddr, 1, 0, 5),
		k.leave())...)
	y.wantShifts(t, shifts, shift(1, 0, api.StateOwned, api.StateCached))
	if got := y.last(1); got.Answer != no || got.Point != got.End-5 {
		t.Errorf("%+v", got)
	}
	if got := y.a.Cached(1); !slices.Equal(got, []int{0}) {
		t.Errorf("Cached(1) = %v", got)
	}
}

// An Insert takes the marked slots on its way out; one of the same key doesn't stand in its way.
func TestInsertPastAMarkedSlot(t *testing.T) {
	y := listOf(t, 5, 7)
	y.mark(t, 0)
	k := track{y, 1}
	from := y.accesses()
	got := y.call(t, insert(1, 5))
	if got.Answer != yes || got.Point != got.End-3 {
		t.Errorf("%+v", got)
	}
	y.wantSeen(t, from, slices.Concat(k.first(link(0)), k.look(rootAddr, 0, marked(1), 5), k.unlink(rootAddr, 0, marked(1)), k.name(1),
		k.look(rootAddr, 1, 0, 7), k.take(2, 2, 3), k.fill(2, 5, 0), k.put(rootAddr, link(1), 2), k.leave())...)
	y.wantKeys(t, 5, 7)
	y.wantSlots(t, 2, 1)
	y.wantList(t, 1, 0)
}
