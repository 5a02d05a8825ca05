package stack_test

import (
	"math"
	"testing"

	"reclaim/api"
)

// P6.1: a push onto others: its link is what was on top.
func TestPushOntoOthers(t *testing.T) {
	y := pair(t)
	y.calls(t, push(0, 1), push(1, 2))
	from := y.accesses()
	got := y.call(t, push(0, 3))
	if got.Answer != done || got.Point != got.End || got.End-got.Begin != 7 {
		t.Errorf("%+v", got)
	}
	y.wantSeen(t, from, load(0, 0, head(2, 2)), load(0, y.addr(api.RegionSpare, 2, 0), link(3)),
		swap(0, 0, head(2, 2), head(3, 3), head(2, 2)), store(0, y.addr(api.RegionValue, 2, 0), 3),
		load(0, 2, link(1)), store(0, y.addr(api.RegionLink, 2, 0), link(1)), swap(0, 2, link(1), link(2), link(1)))
	y.wantStack(t, 3, 2, 1)
	y.wantState(t, 2, api.StateLinked, -1)
}

// P6.1: a slot out of the cache costs no access, and goes to Owned in the move of the first one.
func TestPushFromCache(t *testing.T) {
	y := yardOf(t, configOf(1, 1, 1, 2, 3))
	y.calls(t, register(0), push(0, 1), push(0, 2), pop(0), pop(0))
	y.wantState(t, 0, api.StateCached, 0)
	from, shifts := y.accesses(), y.shifts()
	got := y.call(t, push(0, -7))
	if got.Answer != done || got.Point != got.End || got.End-got.Begin != 4 {
		t.Errorf("%+v", got)
	}
	y.wantSeen(t, from, store(0, y.addr(api.RegionValue, 0, 0), math.MaxUint64-6), load(0, 2, 0),
		store(0, y.addr(api.RegionLink, 0, 0), 0), swap(0, 2, 0, link(0), 0))
	y.wantShifts(t, shifts, shift(0, 0, api.StateCached, api.StateOwned), shift(0, 0, api.StateOwned, api.StateLinked))
	if s := y.m.Run().Shifts[shifts:]; s[0].Move != got.Begin+1 || s[1].Move != got.End {
		t.Errorf("%+v", s)
	}
	y.wantState(t, 1, api.StateCached, 0)
	y.wantStack(t, -7)
}

// P6.1: with no slot left: Full; its point is the move of the load that saw none; nothing is put.
func TestPushFull(t *testing.T) {
	y := yardOf(t, configOf(2, 2, 9, 0, 2))
	y.calls(t, register(0), register(1), push(0, 1), push(1, 2))
	from, shifts := y.accesses(), y.shifts()
	got := y.call(t, push(1, 3))
	if got.Answer != full || got.Point != got.End || got.End-got.Begin != 1 {
		t.Errorf("%+v", got)
	}
	y.wantSeen(t, from, load(1, 0, head(2, -1)))
	y.wantShifts(t, shifts)
	y.wantStack(t, 2, 1)
}

// P6.1: a push that finds no slot only behind a swap of Free that failed.
func TestPushFullOvertaken(t *testing.T) {
	y := yardOf(t, configOf(2, 2, 9, 0, 1))
	y.calls(t, register(0), register(1))
	y.make(t, push(1, 2), step(1), step(1), push(0, 1), step(0), step(0), step(0))
	y.steps(t, 1, 1)
	if got := y.last(1); !y.m.Busy(1) || got.Point != -1 {
		t.Errorf("%+v", got)
	}
	y.steps(t, 1, 1)
	if got := y.last(1); got.Answer != full || got.Point != got.End || got.End < 0 {
		t.Errorf("%+v", got)
	}
	y.finish(t, 0)
	y.wantStack(t, 1)
}

// P6.1: a push whose swap of Top is overtaken loads Top anew, and links to what it sees then; its
// value is not stored again. So often as it is overtaken.
func TestPushOvertaken(t *testing.T) {
	y := pair(t)
	y.call(t, push(0, 1))
	y.make(t, push(0, 2))
	y.steps(t, 0, 5) // it has loaded Top
	y.call(t, push(1, 3))
	from, shifts := y.accesses(), y.shifts()
	y.steps(t, 0, 2) // it stores its link, and fails
	if got := y.last(0); got.Point != -1 || got.End != -1 {
		t.Errorf("%+v", got)
	}
	y.wantStack(t, 3, 1)
	y.steps(t, 0, 2)
	mine := y.addr(api.RegionLink, 1, 0)
	y.wantSeen(t, from, store(0, mine, link(0)), swap(0, 2, link(0), link(1), link(2)),
		load(0, 2, link(2)), store(0, mine, link(2)))
	y.wantShifts(t, shifts)
	y.call(t, pop(1))
	from, shifts = y.accesses(), y.shifts()
	y.steps(t, 0, 4)
	y.wantSeen(t, from, swap(0, 2, link(2), link(1), link(0)), load(0, 2, link(0)), store(0, mine, link(0)),
		swap(0, 2, link(0), link(1), link(0)))
	y.wantShifts(t, shifts, shift(0, 1, api.StateOwned, api.StateLinked))
	if got := y.last(0); got.Answer != done || got.Point != got.End || got.End < 0 {
		t.Errorf("%+v", got)
	}
	y.wantStack(t, 2, 1)
}

// P6.1: what came and went under a push is not to be seen: Top is as it was, and the swap succeeds.
func TestPushOverTheSameTop(t *testing.T) {
	y := pair(t)
	y.call(t, push(0, 1))
	y.make(t, push(0, 2))
	y.steps(t, 0, 6)
	y.calls(t, push(1, 3), pop(1))
	y.steps(t, 0, 1)
	if got := y.last(0); got.Answer != done || got.Point != got.End || got.End < 0 {
		t.Errorf("%+v", got)
	}
	y.wantStack(t, 2, 1)
}

// P4: any int is a value, and comes back.
func TestAnyValue(t *testing.T) {
	y := yardOf(t, example())
	y.call(t, register(0))
	for _, v := range []int{0, 1, -1, math.MaxInt, math.MinInt, 1 << 32, -1 << 32} {
		y.call(t, push(0, v))
		y.wantStack(t, v)
		if got := y.call(t, pop(0)); got.Answer != value(v) {
			t.Errorf("%+v, not %d", got, v)
		}
	}
}
