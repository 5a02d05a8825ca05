package hazard_test

import (
	"testing"

	"reclaim/api"
)

// OpRegister goes on from record to record, and takes the first one that is not taken.
func TestRegisterFirstFree(t *testing.T) {
	y := yardOf(t, configOf(3, 3, 1, 0, 1))
	y.calls(t, register(0), register(1), register(2))
	y.calls(t, unregister(1), unregister(2))
	from := y.accesses()
	got := y.call(t, register(2))
	if got.Answer != value(1) || got.Point != -1 || got.End-got.Begin != 3 {
		t.Errorf("%+v", got)
	}
	y.wantRecord(t, 2, 1)
	y.wantSeen(t, from, load(2, 7, 1), load(2, 8, 0), swap(2, 8, 0, 1, 0))
}

// OpRegister: a swap that fails goes on with the next record.
func TestRegisterOvertaken(t *testing.T) {
	y := yardOf(t, configOf(2, 2, 1, 0, 1))
	y.make(t, register(0), register(1), step(0), step(1), step(0))
	y.wantRecord(t, 0, 0)
	from := y.accesses()
	y.steps(t, 1, 1)
	y.wantRecord(t, 1, -1)
	y.steps(t, 1, 2)
	y.wantSeen(t, from, swap(1, 7, 0, 1, 1), load(1, 8, 0), swap(1, 8, 0, 1, 0))
	y.wantRecord(t, 1, 1)
	if got := y.last(1); got.Answer != value(1) || got.End < 0 {
		t.Errorf("%+v", got)
	}
}

// OpRegister: all tried: AnswerFull, without a point, also where the last swap fails.
func TestRegisterFull(t *testing.T) {
	y := yardOf(t, configOf(3, 2, 1, 0, 1))
	y.calls(t, register(0), register(1))
	from := y.accesses()
	if got := y.call(t, register(2)); got.Answer != full || got.Point != -1 || got.End-got.Begin != 2 {
		t.Errorf("%+v", got)
	}
	y.wantSeen(t, from, load(2, 7, 1), load(2, 8, 1))
	y.wantRecord(t, 2, -1)

	y.call(t, unregister(1))
	y.make(t, register(1), register(2), step(1), step(1), step(2), step(2))
	from = y.accesses()
	y.make(t, step(1), step(2))
	y.wantSeen(t, from, swap(1, 8, 0, 1, 0), swap(2, 8, 0, 1, 1))
	if got := y.last(2); got.Answer != full || got.End < 0 {
		t.Errorf("%+v", got)
	}
	y.wantRecord(t, 1, 1)
	y.wantRecord(t, 2, -1)
}

// OpRegister may answer Full while a helping scan holds a record; the thread holds it just from the
// swap on.
func TestRegisterWhileHelped(t *testing.T) {
	y := yardOf(t, configOf(2, 2, 1, 0, 1))
	y.call(t, register(0))
	y.make(t, scan(0), step(0), step(0))
	if got := y.call(t, register(1)); got.Answer != full {
		t.Errorf("%+v", got)
	}
	y.finish(t, 0)
	y.make(t, register(1), step(1), step(1))
	y.wantRecord(t, 1, -1)
	y.steps(t, 1, 1)
	y.wantRecord(t, 1, 1)
}

// OpRegister: the thread holds the record with its list, as it is.
func TestRegisterWithList(t *testing.T) {
	y := yardOf(t, configOf(3, 2, 9, 0, 6))
	y.calls(t, register(0), register(1))
	y.taken(t, 1, 3)
	y.retired(t, 1, 0, 1, 2)
	y.calls(t, poked(0, y.Addr(0, 0), link(2)), poked(0, y.Addr(0, 2), link(0)), unregister(1))
	y.wantList(t, 1, 0, 2)
	y.call(t, register(2))
	y.wantRecord(t, 2, 1)
	y.wantList(t, 1, 0, 2)
	y.taken(t, 2, 1)
	y.retired(t, 2, 1)
	y.wantList(t, 1, 0, 2, 1)
}

// OpUnregister: the hazards are cleared one by one; then Scan, which keeps what others name; then
// Flush; the record is let go by the last access. The list stays the record's.
func TestUnregisterWithListAndCache(t *testing.T) {
	y := yardOf(t, configOf(2, 2, 9, 1, 8))
	y.calls(t, register(0), register(1))
	y.taken(t, 0, 5)
	y.retired(t, 0, 0, 1, 2, 3)
	y.call(t, api.Move{Op: api.OpGive, Arg: 4})
	y.calls(t, read(0, 1), poked(0, y.Addr(0, 0), link(1)), poked(0, y.Addr(0, 2), link(3)),
		poked(1, y.Addr(1, 1), link(2)))
	free, from, shifts := y.word(0), y.accesses(), y.shifts()
	y.make(t, unregister(0))
	y.steps(t, 0, 3)
	y.wantSeen(t, from, store(0, 9, 0), store(0, 10, 0), store(0, 11, 0))
	y.wantList(t, 0, 0, 1, 2, 3)
	y.steps(t, 0, 7)
	y.wantSeen(t, from+3, load(0, 8, 1), load(0, 9, 0), load(0, 10, 0), load(0, 11, 0),
		load(0, 12, 0), load(0, 13, link(2)), load(0, 14, 0))
	y.wantList(t, 0, 2)
	if free != head(5, 5) {
		t.Fatalf("Free is %x", free)
	}
	y.steps(t, 0, 12)
	y.wantRecord(t, 0, 0)
	y.wantShifts(t, shifts, shift(0, 0, api.StateRetired, api.StateFree), shift(0, 1, api.StateRetired, api.StateFree),
		shift(0, 3, api.StateRetired, api.StateFree), shift(0, 4, api.StateCached, api.StateFree))
	if y.word(7) != 1 || !y.m.Busy(0) {
		t.Error("the record is let go too early")
	}
	y.steps(t, 0, 1)
	y.wantSeen(t, from+22, store(0, 7, 0))
	y.wantRecord(t, 0, -1)
	y.wantList(t, 0, 2)
	y.wantState(t, 2, api.StateRetired, 0)
	if got := y.last(0); got.Answer != done || got.Point != -1 || got.End < 0 {
		t.Errorf("%+v", got)
	}
	if y.word(0) != head(9, 4) {
		t.Errorf("Free is %x", y.word(0))
	}
}

func shift(thread, slot int, from, to api.State) api.Shift {
	return api.Shift{Thread: thread, Slot: slot, From: from, To: to}
}

// OpUnregister: what the scan gives goes into the cache, and out of it by the flush, the last one
// first.
func TestUnregisterThroughTheCache(t *testing.T) {
	y := yardOf(t, configOf(1, 1, 9, 2, 3))
	y.call(t, register(0))
	y.taken(t, 0, 3)
	y.retired(t, 0, 2, 0, 1)
	shifts := y.shifts()
	y.make(t, unregister(0))
	y.steps(t, 0, 6)
	y.wantShifts(t, shifts, shift(0, 2, api.StateRetired, api.StateCached), shift(0, 0, api.StateRetired, api.StateCached))
	y.finish(t, 0)
	y.wantShifts(t, shifts+2, shift(0, 1, api.StateRetired, api.StateFree), shift(0, 0, api.StateCached, api.StateFree),
		shift(0, 2, api.StateCached, api.StateFree))
	if got := y.last(0); got.End-got.Begin != 3+3+3*3+1 {
		t.Errorf("%+v", got)
	}
}

// OpUnregister with one record and nothing retired: its hazards, and its active word.
func TestUnregisterAlone(t *testing.T) {
	c := configOf(1, 1, 1, 2, 2)
	c.Hazards = 5
	y := yardOf(t, c)
	y.calls(t, register(0), read(0, 4))
	from := y.accesses()
	if got := y.call(t, unregister(0)); got.Answer != done || got.End-got.Begin != 6 {
		t.Errorf("%+v", got)
	}
	y.wantSeen(t, from, store(0, 8, 0), store(0, 9, 0), store(0, 10, 0), store(0, 11, 0), store(0, 12, 0), store(0, 7, 0))
	if got := y.call(t, register(0)); got.Answer != value(0) {
		t.Errorf("%+v", got)
	}
}

// OpClear: one store, of that hazard alone, without a point.
func TestClear(t *testing.T) {
	y := yardOf(t, configOf(2, 2, 1, 0, 3))
	y.calls(t, register(0), register(1), post(0, 5), read(1, 0), read(1, 1), read(1, 2))
	for k := range 3 {
		from := y.accesses()
		got := y.call(t, clearing(1, k))
		if got.Answer != done || got.Point != -1 || got.End-got.Begin != 1 {
			t.Errorf("%+v", got)
		}
		y.wantSeen(t, from, store(1, 12+k, 0))
		for i := range 3 {
			want := link(0)
			if i <= k {
				want = 0
			}
			if y.word(12+i) != want {
				t.Errorf("hazard %d is %x behind the clear of %d", i, y.word(12+i), k)
			}
		}
	}
	y.call(t, clearing(1, 0))
}
