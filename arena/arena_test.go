package arena_test

import (
	"math"
	"slices"
	"testing"

	"reclaim/api"
	"reclaim/arena"
	"reclaim/machine"
)

// allStates are the states that there are; oddStates are none.
var (
	allStates = []api.State{api.StateFree, api.StateCached, api.StateOwned, api.StateLinked, api.StateDetached, api.StateRetired}
	oddStates = []api.State{-1, 6, 9, math.MinInt, math.MaxInt}
	oddSlots  = []int{-1, 3, 4, math.MinInt, math.MaxInt} // of an arena of 3 slots
)

// oddConfigs are configurations that may not be, each by one number.
func oddConfigs() []api.Config {
	odd := []api.Config{{}}
	for _, change := range []func(c *api.Config) (field *int, below, above int){
		func(c *api.Config) (*int, int, int) { return &c.Threads, 0, api.MaxThreads + 1 },
		func(c *api.Config) (*int, int, int) { return &c.Records, 0, api.MaxRecords + 1 },
		func(c *api.Config) (*int, int, int) { return &c.Hazards, api.MinHazards - 1, api.MaxHazards + 1 },
		func(c *api.Config) (*int, int, int) { return &c.Retire, 0, api.MaxRetire + 1 },
		func(c *api.Config) (*int, int, int) { return &c.Cache, -1, api.MaxCache + 1 },
		func(c *api.Config) (*int, int, int) { return &c.Slots, 0, api.MaxSlots + 1 },
		func(c *api.Config) (*int, int, int) { return &c.Buckets, 0, api.MaxBuckets + 1 },
	} {
		low, high := configOf(2, 3, 1), configOf(2, 3, 1)
		field, below, _ := change(&low)
		*field = below
		field, _, above := change(&high)
		*field = above
		odd = append(odd, low, high)
	}
	return odd
}

// P4.1 and P8: a configuration that may not be comes ahead of a wrong used.
func TestNewRefusesConfigurations(t *testing.T) {
	for _, c := range oddConfigs() {
		for _, used := range []int{0, 1, -1, math.MaxInt} {
			if a, e := arena.New(c, used); a != nil || e != api.ErrConfig {
				t.Errorf("New(%+v, %d) = %v, %d", c, used, a, e)
			}
		}
	}
}

// P4.1: used is from 0 to Slots.
func TestNewUsed(t *testing.T) {
	c := configOf(2, 3, 1)
	for _, used := range []int{-1, 4, math.MinInt, math.MaxInt} {
		if a, e := arena.New(c, used); a != nil || e != api.ErrRange {
			t.Errorf("New with %d used = %v, %d", used, a, e)
		}
	}
	for used := range 4 {
		a := arenaOf(t, c, used)
		for slot := range 3 {
			want := api.StateFree
			if slot < used {
				want = api.StateLinked
			}
			if s, h, e := a.State(slot); s != want || h != -1 || e != api.OK {
				t.Errorf("%d used: State(%d) = %d, %d, %d", used, slot, s, h, e)
			}
		}
		if a.Count(api.StateLinked) != used || a.Count(api.StateFree) != 3-used {
			t.Errorf("%d used: %d linked, %d free", used, a.Count(api.StateLinked), a.Count(api.StateFree))
		}
		if len(a.Cached(0)) != 0 || len(a.Cached(1)) != 0 {
			t.Errorf("%d used: caches %v, %v", used, a.Cached(0), a.Cached(1))
		}
	}
}

// P4.1: the greatest and the smallest arenas.
func TestNewLimits(t *testing.T) {
	least := api.Config{Threads: 1, Records: 1, Hazards: api.MinHazards, Retire: 1, Slots: 1, Buckets: 1}
	most := api.Config{
		Threads: api.MaxThreads, Records: api.MaxRecords, Hazards: api.MaxHazards, Retire: api.MaxRetire,
		Cache: api.MaxCache, Slots: api.MaxSlots, Buckets: api.MaxBuckets,
	}
	for _, c := range []api.Config{least, most} {
		y := yardOf(t, c, 0)
		thread := c.Threads - 1
		for slot := range c.Slots {
			if got := y.call(t, take(thread)); got != value(slot) {
				t.Fatalf("take %d of %d: %+v", slot, c.Slots, got)
			}
		}
		if got := y.call(t, take(thread)); got != full {
			t.Errorf("a take behind the last: %+v", got)
		}
		for slot := range c.Slots {
			y.call(t, give(thread, slot))
		}
		if len(y.Cached(thread)) != c.Cache || y.Count(api.StateFree) != c.Slots-c.Cache {
			t.Errorf("%d cached, %d free", len(y.Cached(thread)), y.Count(api.StateFree))
		}
	}
}

// P4.2: Config is what it was made with.
func TestConfig(t *testing.T) {
	c := api.Config{Threads: 3, Records: 4, Hazards: 5, Retire: 6, Cache: 7, Slots: 8, Buckets: 9}
	if got := arenaOf(t, c, 2).Config(); got != c {
		t.Errorf("Config() = %+v", got)
	}
}

// P4.2: State, Cached and Count of what there is.
func TestStateCachedCount(t *testing.T) {
	y := yardOf(t, configOf(2, 5, 2), 1)
	for _, mv := range []api.Move{take(1), take(1), take(0), give(1, 1), give(1, 2)} {
		y.call(t, mv)
	}
	y.wantState(t, 0, api.StateLinked, -1)
	y.wantState(t, 1, api.StateCached, 1)
	y.wantState(t, 2, api.StateCached, 1)
	y.wantState(t, 3, api.StateOwned, 0)
	y.wantState(t, 4, api.StateFree, -1)
	y.wantCache(t, 0)
	y.wantCache(t, 1, 1, 2)
	for s, want := range []int{1, 2, 1, 1, 0, 0} {
		if got := y.Count(api.State(s)); got != want {
			t.Errorf("Count(%d) = %d, not %d", s, got, want)
		}
	}
}

// P4.2: State, Cached and Count of what there isn't.
func TestStateCachedCountOfNothing(t *testing.T) {
	y := yardOf(t, configOf(2, 3, 2), 0)
	y.call(t, take(1))
	y.call(t, give(1, 0))
	for _, slot := range oddSlots {
		if s, h, e := y.State(slot); s != 0 || h != 0 || e != api.ErrRange {
			t.Errorf("State(%d) = %d, %d, %d", slot, s, h, e)
		}
	}
	for _, thread := range []int{-1, 2, math.MinInt, math.MaxInt} {
		if got := y.Cached(thread); len(got) != 0 {
			t.Errorf("Cached(%d) = %v", thread, got)
		}
	}
	for _, s := range oddStates {
		if got := y.Count(s); got != 0 {
			t.Errorf("Count(%d) = %d", s, got)
		}
	}
}

// holderIn is who holds a slot that a thread has brought to a state.
func holderIn(s api.State, thread int) int {
	if s == api.StateFree || s == api.StateLinked {
		return -1
	}
	return thread
}

// P4.3: Shift from every state to every state, by another thread each time.
func TestShift(t *testing.T) {
	for _, from := range allStates {
		for _, to := range allStates {
			y := yardOf(t, configOf(3, 3, 1), 0)
			y.at(t, 1, func(d *machine.Desk) { y.Shift(d, 2, from) })
			y.wantState(t, 2, from, holderIn(from, 1))
			before := y.m.Run()
			y.at(t, 2, func(d *machine.Desk) { y.Shift(d, 2, to) })
			y.wantState(t, 2, to, holderIn(to, 2))
			y.wantState(t, 0, api.StateFree, -1)
			y.wantState(t, 1, api.StateFree, -1)
			r := y.m.Run()
			shifts := []api.Shift{
				{Move: 1, Thread: 1, Slot: 2, From: api.StateFree, To: from},
				{Move: 3, Thread: 2, Slot: 2, From: from, To: to},
			}
			if !slices.Equal(r.Shifts, shifts) {
				t.Errorf("%d to %d: %+v", from, to, r.Shifts)
			}
			if !slices.Equal(r.Words, before.Words) || len(r.Trace) != 0 {
				t.Errorf("%d to %d: the memory is touched", from, to)
			}
		}
	}
}

// P4.3: the caches are not touched by it.
func TestShiftLeavesCaches(t *testing.T) {
	for _, to := range allStates {
		y := yardOf(t, configOf(2, 3, 2), 0)
		y.call(t, take(0))
		y.call(t, give(0, 0))
		y.at(t, 1, func(d *machine.Desk) { y.Shift(d, 0, to); y.Shift(d, 1, api.StateCached) })
		y.wantCache(t, 0, 0)
		y.wantCache(t, 1)
		y.wantState(t, 0, to, holderIn(to, 1))
	}
}

// P4.3: nothing, if there is no such slot or no such state.
func TestShiftRefuses(t *testing.T) {
	y := yardOf(t, configOf(2, 3, 1), 1)
	y.at(t, 1, func(d *machine.Desk) {
		for _, slot := range oddSlots {
			for _, to := range append(allStates, oddStates...) {
				y.Shift(d, slot, to)
			}
		}
		for slot := range 3 {
			for _, to := range oddStates {
				y.Shift(d, slot, to)
			}
		}
	})
	if r := y.m.Run(); len(r.Shifts) != 0 {
		t.Errorf("%+v", r.Shifts)
	}
	y.wantState(t, 0, api.StateLinked, -1)
	y.wantState(t, 1, api.StateFree, -1)
	y.wantState(t, 2, api.StateFree, -1)
}

// P4.3 and P3.9: a desk that no machine handed out notes nothing, and its thread is 0.
func TestShiftAtNobodysDesk(t *testing.T) {
	for _, d := range []*machine.Desk{nil, {}} {
		a := arenaOf(t, configOf(2, 3, 1), 0)
		a.Shift(d, 1, api.StateRetired)
		if s, h, e := a.State(1); s != api.StateRetired || h != 0 || e != api.OK {
			t.Errorf("State(1) = %d, %d, %d", s, h, e)
		}
	}
}
