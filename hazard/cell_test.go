package hazard_test

import (
	"math"
	"testing"

	"reclaim/api"
)

// OpPost of a slot out of the cache: the take costs no access.
func TestPostFromCache(t *testing.T) {
	y := yardOf(t, configOf(1, 1, 1, 2, 4))
	y.call(t, register(0))
	y.taken(t, 0, 3)
	y.calls(t, api.Move{Op: api.OpGive, Arg: 0}, api.Move{Op: api.OpGive, Arg: 2})
	from, shifts := y.accesses(), y.shifts()
	got := y.call(t, post(0, -7))
	if got.Answer != done || got.End-got.Begin != 3 || got.Point != got.End {
		t.Errorf("%+v", got)
	}
	y.wantSeen(t, from, store(0, y.addr(api.RegionValue, 2, 0), math.MaxUint64-6), load(0, 1, 0), swap(0, 1, 0, link(2), 0))
	y.wantShifts(t, shifts, shift(0, 2, api.StateCached, api.StateOwned), shift(0, 2, api.StateOwned, api.StateLinked))
	y.wantState(t, 2, api.StateLinked, -1)
	y.wantState(t, 0, api.StateCached, 0)
}

// OpPost with no slot left: Full; its point is the move of the load that saw none.
func TestPostFull(t *testing.T) {
	y := yardOf(t, configOf(2, 2, 9, 0, 2))
	y.calls(t, register(0), register(1), post(0, 1), post(0, 2))
	y.wantList(t, 0, 0)
	from := y.accesses()
	got := y.call(t, post(1, 3))
	if got.Answer != full || got.Point != got.End || got.End-got.Begin != 1 {
		t.Errorf("%+v", got)
	}
	y.wantSeen(t, from, load(1, 0, head(2, -1)))
	if got := y.call(t, read(1, 0)); got.Answer != value(2) {
		t.Errorf("%+v", got)
	}
}

// OpPost that finds no slot only behind a swap of Free that failed.
func TestPostFullOvertaken(t *testing.T) {
	y := yardOf(t, configOf(2, 2, 9, 0, 1))
	y.calls(t, register(0), register(1))
	y.make(t, post(0, 1), post(1, 2), step(1), step(1), step(0), step(0), step(0))
	y.steps(t, 1, 1)
	if !y.m.Busy(1) || y.last(1).Point != -1 {
		t.Errorf("%+v", y.last(1))
	}
	y.steps(t, 1, 1)
	if got := y.last(1); got.Answer != full || got.Point != got.End || got.End < 0 {
		t.Errorf("%+v", got)
	}
	y.finish(t, 0)
	if got := y.call(t, read(1, 1)); got.Answer != value(1) {
		t.Errorf("%+v", got)
	}
}

// OpPost whose swap of the cell is overtaken loads the cell anew, and retires what it saw then.
func TestPostOvertaken(t *testing.T) {
	y := yardOf(t, configOf(2, 2, 9, 0, 4))
	y.calls(t, register(0), register(1), post(0, 1))
	y.make(t, post(0, 2))
	y.steps(t, 0, 5) // it has loaded the cell
	y.call(t, post(1, 3))
	y.wantList(t, 1, 0)
	from, shifts := y.accesses(), y.shifts()
	y.steps(t, 0, 2)
	if got := y.last(0); got.Point != -1 || got.End != -1 {
		t.Errorf("%+v", got)
	}
	y.wantShifts(t, shifts)
	y.steps(t, 0, 1)
	y.wantSeen(t, from, swap(0, 1, link(0), link(1), link(2)), load(0, 1, link(2)), swap(0, 1, link(2), link(1), link(2)))
	y.wantShifts(t, shifts, shift(0, 1, api.StateOwned, api.StateLinked), shift(0, 2, api.StateLinked, api.StateDetached),
		shift(0, 2, api.StateDetached, api.StateRetired))
	y.wantList(t, 0, 2)
	y.wantList(t, 1, 0)
	if got := y.last(0); got.Point != got.End || got.End < 0 || got.Answer != done {
		t.Errorf("%+v", got)
	}
}

// OpPost: its point stands from the swap on, ahead of the scan behind it; its answer from the end.
func TestPostPointAheadOfScan(t *testing.T) {
	y := yardOf(t, example())
	y.calls(t, register(0), post(0, 1))
	y.make(t, post(0, 2))
	y.steps(t, 0, 6)
	got := y.last(0)
	if got.Point != got.Begin+6 || got.End != -1 || got.Answer != (api.Answer{}) {
		t.Errorf("%+v", got)
	}
	y.wantState(t, 1, api.StateLinked, -1)
	y.wantState(t, 0, api.StateRetired, 0)
	y.finish(t, 0)
	if end := y.last(0); end.Point != got.Point || end.Answer != done {
		t.Errorf("%+v", end)
	}
}

// P4: any int is a value.
func TestPostAnyValue(t *testing.T) {
	y := yardOf(t, configOf(1, 1, 1, 1, 2))
	y.call(t, register(0))
	for _, v := range []int{0, 1, -1, math.MaxInt, math.MinInt, 1 << 32, -1 << 32} {
		y.call(t, post(0, v))
		if got := y.call(t, read(0, 0)); got.Answer != value(v) {
			t.Errorf("%+v, not %d", got, v)
		}
		y.call(t, clearing(0, 0))
	}
}

// OpRead of an empty cell: one load, which is the point; the hazard stays as it is.
func TestReadEmpty(t *testing.T) {
	y := yardOf(t, example())
	y.call(t, register(0))
	y.call(t, poked(0, y.Addr(0, 1), link(2)))
	from := y.accesses()
	got := y.call(t, read(0, 1))
	if got.Answer != empty || got.Point != got.End || got.End-got.Begin != 1 {
		t.Errorf("%+v", got)
	}
	y.wantSeen(t, from, load(0, 1, 0))
	if y.word(10) != link(2) {
		t.Errorf("the hazard is %x", y.word(10))
	}
}

// OpRead by each hazard of each record; the hazard is left as it is.
func TestReadByEachHazard(t *testing.T) {
	c := configOf(2, 2, 1, 0, 3)
	c.Hazards = 4
	y := yardOf(t, c)
	y.calls(t, register(1), register(0), post(0, 9))
	for thread := range 2 {
		for k := range 4 {
			from := y.accesses()
			got := y.call(t, read(thread, k))
			if got.Answer != value(9) || got.Point != got.End-1 || got.End-got.Begin != 4 {
				t.Errorf("%+v", got)
			}
			hazard := y.addr(api.RegionHazard, 1-thread, k)
			y.wantSeen(t, from, load(thread, 1, link(0)), store(thread, hazard, link(0)), load(thread, 1, link(0)),
				load(thread, y.addr(api.RegionValue, 0, 0), 9))
			if y.word(hazard) != link(0) {
				t.Errorf("hazard %d of thread %d is %x", k, thread, y.word(hazard))
			}
		}
	}
}

// OpRead of a cell that changes between its loads: the hazard names the new one ahead of the next
// load; the point is the last load's move.
func TestReadOfAChangingCell(t *testing.T) {
	y := yardOf(t, configOf(2, 2, 9, 0, 4))
	y.calls(t, register(0), register(1), post(0, 1))
	y.make(t, read(1, 2), step(1))
	y.call(t, post(0, 2))
	from := y.accesses()
	y.steps(t, 1, 2)
	y.wantSeen(t, from, store(1, 14, link(0)), load(1, 1, link(1)))
	y.steps(t, 1, 1)
	y.call(t, post(0, 3))
	y.steps(t, 1, 1)
	if got := y.last(1); got.Point != -1 || got.End != -1 {
		t.Errorf("%+v", got)
	}
	from = y.accesses()
	y.steps(t, 1, 2)
	point := y.last(1).Begin
	for _, a := range y.m.Run().Trace {
		if a.Thread == 1 && a.Addr == 1 {
			point = a.Move
		}
	}
	y.steps(t, 1, 1)
	y.wantSeen(t, from, store(1, 14, link(2)), load(1, 1, link(2)), load(1, y.addr(api.RegionValue, 2, 0), 3))
	if got := y.last(1); got.Answer != value(3) || got.Point != point || got.End != point+1 {
		t.Errorf("%+v, the last load in %d", got, point)
	}
}

// OpRead: a cell that comes back to the same slot between its loads is the same.
func TestReadOfACellThatComesBack(t *testing.T) {
	y := yardOf(t, configOf(2, 2, 1, 0, 4))
	y.calls(t, register(0), register(1), post(0, 1))
	y.make(t, read(1, 0), step(1))
	y.calls(t, post(0, 2), post(0, 3))
	if y.word(1) != link(0) {
		t.Fatalf("the cell is %x", y.word(1))
	}
	from := y.accesses()
	y.finish(t, 1)
	y.wantSeen(t, from, store(1, 12, link(0)), load(1, 1, link(0)), load(1, y.addr(api.RegionValue, 0, 0), 3))
	if got := y.last(1); got.Answer != value(3) {
		t.Errorf("%+v", got)
	}
}

// OpRead of a cell that changes to none: Empty, the point is that load's move; its hazard stays.
func TestReadOfACellThatBecomesEmpty(t *testing.T) {
	y := yardOf(t, example())
	y.calls(t, register(0), register(1), post(0, 1))
	y.make(t, read(1, 1), step(1), step(1))
	y.call(t, poked(0, 1, 0))
	from := y.accesses()
	y.steps(t, 1, 1)
	y.wantSeen(t, from, load(1, 1, 0))
	if got := y.last(1); got.Answer != empty || got.Point != got.End || got.End != y.m.Moves()-1 {
		t.Errorf("%+v", got)
	}
	if y.word(13) != link(0) {
		t.Errorf("the hazard is %x", y.word(13))
	}
}

// OpRead: a run that is cut between its last two accesses has no point yet; with the end it has the
// one of the load ahead, whatever comes between.
func TestReadCut(t *testing.T) {
	y := yardOf(t, configOf(2, 2, 1, 0, 4))
	y.calls(t, register(0), register(1), post(0, 1))
	y.make(t, read(1, 0), step(1), step(1), step(1))
	point := y.m.Moves() - 1
	if got := y.last(1); got.Point != -1 || got.End != -1 || got.Answer != (api.Answer{}) {
		t.Errorf("%+v", got)
	}
	if r := y.m.Run(); r.Calls[len(r.Calls)-1].Point != -1 {
		t.Errorf("%+v", r.Calls)
	}
	y.call(t, post(0, 2))
	y.wantList(t, 0, 0)
	if got := y.last(1); got.Point != -1 {
		t.Errorf("%+v", got)
	}
	y.steps(t, 1, 1)
	if got := y.last(1); got.Point != point || got.End != y.m.Moves()-1 || got.Answer != value(1) {
		t.Errorf("%+v, the last load in %d", got, point)
	}
}

// A slot stays named over many calls, and is kept so long, by whichever thread names it.
func TestNamedOverManyCalls(t *testing.T) {
	for reader := range 2 {
		y := yardOf(t, configOf(2, 2, 1, 0, 3))
		y.calls(t, register(0), register(1), post(0, 10), read(reader, 1))
		for v := range 6 {
			y.calls(t, post(0, v), scan(0))
			y.wantState(t, 0, api.StateRetired, 0)
			y.wantList(t, 0, 0)
			if got := y.call(t, read(reader, 0)); got.Answer != value(v) {
				t.Errorf("%+v", got)
			}
			y.call(t, clearing(reader, 0))
		}
		y.calls(t, clearing(reader, 1), scan(0))
		y.wantState(t, 0, api.StateFree, -1)
		y.wantList(t, 0)
	}
}

// P5.6 (3): a hazard that names a slot only when it is not Linked any more keeps nothing; the read
// finds that the cell has changed.
func TestNamedTooLate(t *testing.T) {
	y := yardOf(t, configOf(2, 2, 1, 0, 3))
	y.calls(t, register(0), register(1), post(0, 1))
	y.make(t, read(1, 0), step(1))
	y.make(t, post(0, 2))
	y.steps(t, 0, 6+1+6)
	y.wantList(t, 0)
	y.steps(t, 1, 1)
	if y.word(12) != link(0) {
		t.Fatalf("the hazard is %x", y.word(12))
	}
	y.finish(t, 0)
	y.wantState(t, 0, api.StateFree, -1)
	y.finish(t, 1)
	if got := y.last(1); got.Answer != value(2) {
		t.Errorf("%+v", got)
	}
}
