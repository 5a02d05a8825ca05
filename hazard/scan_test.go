package hazard_test

import (
	"math"
	"testing"

	"reclaim/api"
	"reclaim/machine"
)

// looks are the loads of all hazards, in their order; named are the words that are not 0.
func (y *yard) looks(thread int, named map[int]uint64) []api.Access {
	var list []api.Access
	for i := range y.c.Records * y.c.Hazards {
		addr := y.addr(api.RegionHazard, 0, 0) + i
		list = append(list, load(thread, addr, named[addr]))
	}
	return list
}

// A scan with one record and an empty list ends in its first step, without an access.
func TestScanOneRecordEmpty(t *testing.T) {
	y := yardOf(t, configOf(1, 1, 1, 0, 2))
	y.call(t, register(0))
	from := y.accesses()
	if got := y.call(t, scan(0)); got.Answer != done || got.Point != -1 || got.End-got.Begin != 1 {
		t.Errorf("%+v", got)
	}
	y.wantSeen(t, from)
	part := y.Scan(0)
	y.at(t, 0, func(d *machine.Desk) {
		if !part.Ready(d) {
			t.Error("the part goes on")
		}
	})
}

// A scan with one record and slots in its list looks at once, at the own hazards too.
func TestScanOneRecord(t *testing.T) {
	y := yardOf(t, configOf(1, 1, 9, 1, 6))
	y.call(t, register(0))
	y.taken(t, 0, 5)
	y.retired(t, 0, 3, 0, 4, 1)
	y.call(t, poked(0, y.Addr(0, 2), link(0)))
	from, shifts := y.accesses(), y.shifts()
	y.make(t, scan(0))
	y.steps(t, 0, 3)
	y.wantSeen(t, from, load(0, 8, 0), load(0, 9, 0), load(0, 10, link(0)))
	y.wantList(t, 0, 0)
	y.wantShifts(t, shifts, shift(0, 3, api.StateRetired, api.StateCached))
	y.wantState(t, 4, api.StateRetired, 0)
	y.wantState(t, 1, api.StateRetired, 0)
	y.finish(t, 0)
	y.wantSeen(t, from+3, load(0, 0, head(5, 5)), store(0, 15, link(5)), swap(0, 0, head(5, 5), head(6, 4), head(5, 5)),
		load(0, 0, head(6, 4)), store(0, 12, link(4)), swap(0, 0, head(6, 4), head(7, 1), head(6, 4)))
	y.wantShifts(t, shifts+1, shift(0, 4, api.StateRetired, api.StateFree), shift(0, 1, api.StateRetired, api.StateFree))
	y.wantList(t, 0, 0)
}

// A scan whose slots all go into the cache ends with its last look.
func TestScanIntoTheCache(t *testing.T) {
	y := yardOf(t, configOf(1, 1, 9, 2, 4))
	y.call(t, register(0))
	y.taken(t, 0, 2)
	y.retired(t, 0, 1, 0)
	from, shifts := y.accesses(), y.shifts()
	if got := y.call(t, scan(0)); got.End-got.Begin != 3 {
		t.Errorf("%+v", got)
	}
	y.wantSeen(t, from, y.looks(0, nil)...)
	y.wantShifts(t, shifts, shift(0, 1, api.StateRetired, api.StateCached), shift(0, 0, api.StateRetired, api.StateCached))
}

// Help: records that are taken are passed by, the own one is left out, others are taken and let go;
// with an empty list the scan ends then.
func TestScanHelpOrder(t *testing.T) {
	y := yardOf(t, configOf(3, 4, 1, 0, 2))
	y.calls(t, register(0), register(1), register(2), unregister(0))
	from := y.accesses()
	if got := y.call(t, scan(1)); got.Answer != done || got.End-got.Begin != 7 {
		t.Errorf("%+v", got)
	}
	y.wantSeen(t, from, load(1, 7, 0), swap(1, 7, 0, 1, 0), store(1, 7, 0), load(1, 9, 1),
		load(1, 10, 0), swap(1, 10, 0, 1, 0), store(1, 10, 0))
	from = y.accesses()
	y.call(t, scan(2))
	y.wantSeen(t, from, load(2, 7, 0), swap(2, 7, 0, 1, 0), store(2, 7, 0), load(2, 8, 1),
		load(2, 10, 0), swap(2, 10, 0, 1, 0), store(2, 10, 0))
	y.wantRecord(t, 1, 1)
	y.wantRecord(t, 2, 2)
}

// leftBehind is hazards in which thread 1 has let record 1 go with the slots 1 and 3 in its list,
// which thread 0 names by its hazards 0 and 2, and thread 0's list has slot 5.
func leftBehind(t *testing.T) *yard {
	t.Helper()
	y := yardOf(t, configOf(3, 3, 9, 0, 8))
	y.calls(t, register(0), register(1))
	y.taken(t, 1, 5)
	y.retired(t, 1, 0, 1, 2, 3)
	y.calls(t, poked(0, y.Addr(0, 0), link(1)), poked(0, y.Addr(0, 2), link(3)), unregister(1))
	y.wantList(t, 1, 1, 3)
	y.taken(t, 0, 3)
	y.retired(t, 0, 5)
	return y
}

// Help: the list of a record that is not taken is put behind the own one, in its order, with the
// swap; what is named then stays, the rest is given by the thread that scans.
func TestScanHelps(t *testing.T) {
	y := leftBehind(t)
	y.call(t, clearing(0, 0))
	y.make(t, scan(0))
	from, shifts := y.accesses(), y.shifts()
	y.steps(t, 0, 1)
	y.wantList(t, 1, 1, 3)
	y.wantList(t, 0, 5)
	y.steps(t, 0, 1)
	y.wantList(t, 1)
	y.wantList(t, 0, 5, 1, 3)
	y.wantShifts(t, shifts)
	y.wantRecord(t, 0, 0)
	y.steps(t, 0, 1)
	y.wantSeen(t, from, load(0, 8, 0), swap(0, 8, 0, 1, 0), store(0, 8, 0))
	y.steps(t, 0, 3)
	y.wantSeen(t, from+3, load(0, 9, 0), swap(0, 9, 0, 1, 0), store(0, 9, 0))
	y.steps(t, 0, 9)
	y.wantSeen(t, from+6, y.looks(0, map[int]uint64{12: link(3)})...)
	y.wantList(t, 0, 3)
	y.finish(t, 0)
	y.wantState(t, 1, api.StateFree, -1)
	y.wantState(t, 3, api.StateRetired, 1)
	last := y.m.Run().Shifts
	if s := last[len(last)-1]; s.Thread != 0 || s.Slot != 1 || s.From != api.StateRetired || s.To != api.StateFree {
		t.Errorf("%+v", last)
	}
}

// Help: a swap of active that fails passes the record by, with its list.
func TestScanHelpOvertaken(t *testing.T) {
	y := leftBehind(t)
	y.make(t, scan(0), register(2), step(2), step(2), step(0))
	from := y.accesses()
	y.make(t, step(2), step(0), step(0))
	y.wantSeen(t, from, swap(2, 8, 0, 1, 0), swap(0, 8, 0, 1, 1), load(0, 9, 0))
	y.wantRecord(t, 2, 1)
	y.wantList(t, 1, 1, 3)
	y.wantList(t, 0, 5)
	y.finish(t, 0)
	y.wantList(t, 1, 1, 3)
	if y.word(8) != 1 {
		t.Error("the record is let go")
	}
}

// Two scans that help one record: just one of them has its list.
func TestScansHelpTogether(t *testing.T) {
	y := leftBehind(t)
	y.call(t, register(2)) // record 1, with its list
	y.calls(t, register(1))
	y.call(t, unregister(2))
	y.wantRecord(t, 1, 2)
	y.wantList(t, 1, 1, 3)
	y.make(t, scan(0), scan(1), step(1), step(1), step(0))
	from := y.accesses()
	y.make(t, step(1), step(0))
	y.wantSeen(t, from, swap(1, 8, 0, 1, 0), swap(0, 8, 0, 1, 1))
	y.wantList(t, 2, 1, 3)
	y.wantList(t, 1)
	y.wantList(t, 0, 5)
	y.finish(t, 0)
	y.finish(t, 1)
	y.wantList(t, 2, 1, 3)
}

// An own list that is empty ahead of the help, and not behind it, is looked at.
func TestScanOfAHelpedListAlone(t *testing.T) {
	y := yardOf(t, configOf(2, 2, 9, 0, 3))
	y.calls(t, register(0), register(1), post(0, 1), read(1, 0), post(0, 2), unregister(0))
	y.wantList(t, 0, 0)
	y.call(t, clearing(1, 0))
	from := y.accesses()
	y.call(t, scan(1))
	want := append([]api.Access{load(1, 7, 0), swap(1, 7, 0, 1, 0), store(1, 7, 0)}, y.looks(1, nil)...)
	want = append(want, load(1, 0, head(2, 2)), store(1, y.addr(api.RegionSpare, 0, 0), link(2)),
		swap(1, 0, head(2, 2), head(3, 0), head(2, 2)))
	y.wantSeen(t, from, want...)
	y.wantList(t, 0)
	y.wantList(t, 1)
}

// Look: what is named counts as it is at its load; what is named later is given all the same.
func TestScanLooksOnce(t *testing.T) {
	y := yardOf(t, configOf(2, 2, 9, 0, 6))
	y.calls(t, register(0), register(1))
	y.taken(t, 0, 3)
	y.retired(t, 0, 0, 1, 2)
	y.call(t, poked(1, 12, link(1)))
	y.make(t, scan(0))
	y.steps(t, 0, 4)
	y.call(t, poked(1, 9, link(0)))
	y.steps(t, 0, 1)
	y.calls(t, poked(1, 12, 0), poked(1, 13, link(2)))
	y.wantList(t, 0, 0, 1, 2)
	y.finish(t, 0)
	y.wantList(t, 0, 1, 2)
	y.wantState(t, 0, api.StateFree, -1)
}

// Split: named slots stay in their order, also where one is named twice, and the hazards name others
// too; all others are given in their order.
func TestScanSplit(t *testing.T) {
	y := yardOf(t, configOf(2, 2, 9, 0, 12))
	y.calls(t, register(0), register(1))
	y.taken(t, 0, 9)
	y.retired(t, 0, 7, 2, 5, 0, 3, 8)
	for addr, w := range map[int]uint64{9: link(0), 10: link(11), 11: link(4), 12: link(2), 13: link(0), 14: link(8)} {
		y.call(t, poked(1, addr, w))
	}
	shifts := y.shifts()
	y.call(t, scan(0))
	y.wantList(t, 0, 2, 0, 8)
	y.wantShifts(t, shifts, shift(0, 7, api.StateRetired, api.StateFree), shift(0, 5, api.StateRetired, api.StateFree),
		shift(0, 3, api.StateRetired, api.StateFree))
	shifts = y.shifts()
	y.call(t, scan(0))
	y.wantList(t, 0, 2, 0, 8)
	y.wantShifts(t, shifts)
}

// Pending slots have left the list, and stay Retired, till each is given.
func TestScanPending(t *testing.T) {
	y := yardOf(t, configOf(1, 1, 3, 0, 4))
	y.call(t, register(0))
	y.taken(t, 0, 3)
	y.retired(t, 0, 0, 1)
	y.wantList(t, 0, 0, 1)
	y.at(t, 0, func(d *machine.Desk) { y.a.Shift(d, 2, api.StateDetached) })
	y.begin(t, 0, y.Retire(0, 2))
	y.steps(t, 0, 3)
	y.wantList(t, 0)
	for slot, free := range []int{3, 3, 3} {
		for s := range 3 {
			want := api.StateRetired
			if s < slot {
				want = api.StateFree
			}
			if got, _, _ := y.a.State(s); got != want {
				t.Errorf("State(%d) = %d", s, got)
			}
		}
		y.steps(t, 0, free)
	}
	if y.m.Busy(0) {
		t.Error("the part goes on")
	}
}

// Retire: below the number Retire it ends at once; at it the list is scanned.
func TestRetireBelowAndAt(t *testing.T) {
	for retire := 1; retire <= 4; retire++ {
		y := yardOf(t, configOf(2, 2, retire, 0, 6))
		y.calls(t, register(0), register(1))
		y.taken(t, 0, 4)
		want := []int{}
		for slot := range retire {
			y.at(t, 0, func(d *machine.Desk) { y.a.Shift(d, slot, api.StateDetached) })
			from, shifts := y.accesses(), y.shifts()
			part := y.Retire(0, slot)
			y.begin(t, 0, part)
			y.wantState(t, slot, api.StateDetached, 0)
			y.steps(t, 0, 1)
			want = append(want, slot)
			if slot+1 < retire {
				y.wantList(t, 0, want...)
				y.wantSeen(t, from)
				y.wantShifts(t, shifts, shift(0, slot, api.StateDetached, api.StateRetired))
				if y.m.Busy(0) {
					t.Error("below the number the part goes on")
				}
				continue
			}
			y.wantSeen(t, from, load(0, 8, 1))
			y.wantList(t, 0, want...)
			y.finish(t, 0)
			y.wantList(t, 0)
			if y.accesses()-from != 1+6+3*retire {
				t.Errorf("Retire %d: %d accesses", retire, y.accesses()-from)
			}
		}
	}
}

// Retire: a list that stays at its number, as its slots are named, is scanned at each one more.
func TestRetireAboveItsNumber(t *testing.T) {
	y := yardOf(t, configOf(2, 2, 2, 0, 8))
	y.calls(t, register(0), register(1))
	y.taken(t, 0, 5)
	for k, slot := range []int{0, 1, 2} {
		y.call(t, poked(1, y.Addr(1, k), link(slot)))
	}
	for n, want := range [][]int{{0}, {0, 1}, {0, 1, 2}, {0, 1, 2}, {0, 1, 2}} {
		from := y.accesses()
		y.retired(t, 0, n)
		y.wantList(t, 0, want...)
		made := []int{0, 7, 7, 10, 10}[n]
		if y.accesses()-from != made {
			t.Errorf("slot %d: %d accesses, not %d", n, y.accesses()-from, made)
		}
	}
}

// P5.6 (2): with all hazards naming slots of one list that has A slots; one more is given back.
func TestListAtItsLongest(t *testing.T) {
	y := yardOf(t, configOf(2, 2, 1, 0, 9))
	y.calls(t, register(0), register(1))
	y.taken(t, 0, 8)
	want := []int{}
	for slot := range 6 {
		y.call(t, poked(1, 9+slot, link(slot)))
		y.retired(t, 0, slot)
		want = append(want, slot)
		y.wantList(t, 0, want...)
	}
	for slot := 6; slot < 8; slot++ {
		y.at(t, 0, func(d *machine.Desk) { y.a.Shift(d, slot, api.StateDetached) })
		y.begin(t, 0, y.Retire(0, slot))
		y.steps(t, 0, 1)
		y.wantList(t, 0, append(want, slot)...)
		y.finish(t, 0)
		y.wantList(t, 0, want...)
		y.wantState(t, slot, api.StateFree, -1)
	}
}

// P5.3: Retire and Scan for a thread that holds no record, and of a slot that there isn't, end at
// once, and nothing is done.
func TestPartsOfNoUse(t *testing.T) {
	y := yardOf(t, configOf(3, 3, 1, 1, 4))
	y.calls(t, register(1), register(0), register(2), unregister(2))
	y.taken(t, 2, 1)
	before := y.m.Run()
	parts := map[string]machine.Task{
		"a retire by a thread without a record": y.Retire(2, 0),
		"a scan by a thread without a record":   y.Scan(2),
	}
	for _, n := range []int{-1, 4, 1024, math.MinInt, math.MaxInt} {
		for what, part := range map[string]machine.Task{
			"a retire by a thread that there isn't": y.Retire(n, 0),
			"a scan by a thread that there isn't":   y.Scan(n),
			"a retire of a slot that there isn't":   y.Retire(0, n),
			"a retire of neither":                   y.Retire(n, n),
		} {
			y.wantEnded(t, what, part)
		}
	}
	for what, part := range parts {
		y.wantEnded(t, what, part)
	}
	y.wantOnlyCalls(t, before)
	y.wantState(t, 0, api.StateOwned, 2)
	for record := range 3 {
		y.wantList(t, record)
	}
}

// wantEnded asks that a part has ended when it begins, as a part of a call and as a call.
func (y *yard) wantEnded(t *testing.T, what string, part machine.Task) {
	t.Helper()
	y.at(t, 0, func(d *machine.Desk) {
		for range 2 {
			if !part.Ready(d) || !part.Step(d) {
				t.Errorf("%s goes on", what)
			}
		}
	})
	y.begin(t, 0, part)
	y.steps(t, 0, 1)
	if y.m.Busy(0) {
		t.Fatalf("%s goes on", what)
	}
}

// P5.3: the parts are tasks: they go on step by step as calls do.
func TestPartsAsTasks(t *testing.T) {
	c := configOf(2, 2, 2, 1, 6)
	one, other := yardOf(t, c), yardOf(t, c)
	for _, y := range []*yard{one, other} {
		y.calls(t, register(0), register(1), post(0, 1), read(1, 0), post(0, 2))
		y.taken(t, 0, 2)
	}
	one.make(t, scan(0))
	other.begin(t, 0, other.Scan(0))
	one.finish(t, 0)
	other.finish(t, 0)
	a, b := one.m.Run(), other.m.Run()
	a.Calls = b.Calls
	wantRun(t, a, b)
	one.wantList(t, 0, other.List(0)...)
}
