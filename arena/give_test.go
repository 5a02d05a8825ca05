package arena_test

import (
	"math"
	"testing"

	"reclaim/api"
	"reclaim/machine"
)

// takeAll lets a thread take so many slots.
func (y *yard) takeAll(t *testing.T, thread, count int) {
	t.Helper()
	for range count {
		if got := y.call(t, take(thread)); got.Kind != api.AnswerValue {
			t.Fatalf("take: %+v", got)
		}
	}
}

// lastShift is the last shift; it is to be of the last move.
func (y *yard) lastShift(t *testing.T) api.Shift {
	t.Helper()
	shifts := y.m.Run().Shifts
	if len(shifts) == 0 || shifts[len(shifts)-1].Move != y.m.Moves()-1 {
		t.Fatalf("no shift in the last move: %+v", shifts)
	}
	s := shifts[len(shifts)-1]
	s.Move = 0
	return s
}

// P4.5: with room in the cache the slot is put behind, without an access.
func TestGiveIntoTheCache(t *testing.T) {
	y := yardOf(t, configOf(2, 4, 2), 0)
	y.takeAll(t, 1, 3)
	accesses := len(y.m.Run().Trace)
	for i, slot := range []int{2, 0} {
		w := &watch{Task: y.Give(1, slot)}
		y.begin(t, 1, w)
		y.wantState(t, slot, api.StateOwned, 1)
		if steps := y.finish(t, 1); steps != 1 || w.readies != 1 || w.steps != 0 {
			t.Errorf("give %d: %d steps, %+v", i, steps, w)
		}
		y.wantState(t, slot, api.StateCached, 1)
		want := api.Shift{Thread: 1, Slot: slot, From: api.StateOwned, To: api.StateCached}
		if got := y.lastShift(t); got != want {
			t.Errorf("give %d: %+v", i, got)
		}
	}
	y.wantCache(t, 1, 2, 0)
	y.wantCache(t, 0)
	y.wantFree(t, 3, 3)
	if got := len(y.m.Run().Trace); got != accesses {
		t.Errorf("%d accesses, not %d", got, accesses)
	}
}

// P4.5: without room, and with Cache 0, G1 to G3.
func TestGiveToTheFreeList(t *testing.T) {
	for _, cache := range []int{0, 1} {
		c := configOf(2, 4, cache)
		y := yardOf(t, c, 0)
		y.takeAll(t, 1, 3)
		if cache > 0 {
			y.call(t, give(1, 2))
		}
		w := &watch{Task: y.Give(1, 1)}
		y.begin(t, 1, w)
		for range 3 {
			y.wantState(t, 1, api.StateOwned, 1)
			y.wantFree(t, 3, 3)
			y.steps(t, 1, 1)
		}
		if !w.ended || w.steps != 3 || w.readies != 1 || y.m.Busy(1) {
			t.Errorf("Cache %d: %+v", cache, w)
		}
		y.wantTrace(t,
			api.Access{Thread: 1, Kind: api.AccessLoad, Saw: head(3, 3)},
			api.Access{Thread: 1, Kind: api.AccessStore, Addr: spareOf(c, 1), New: link(3)},
			api.Access{Thread: 1, Kind: api.AccessSwap, Old: head(3, 3), New: head(4, 1), Saw: head(3, 3)},
		)
		want := api.Shift{Thread: 1, Slot: 1, From: api.StateOwned, To: api.StateFree}
		if got := y.lastShift(t); got != want {
			t.Errorf("Cache %d: %+v", cache, got)
		}
		y.wantState(t, 1, api.StateFree, -1)
		y.wantFree(t, 4, 1, 3)
		if len(y.Cached(1)) != cache {
			t.Errorf("Cache %d: Cached(1) = %v", cache, y.Cached(1))
		}
	}
}

// P4.5: where the free list is empty the slot has none behind it.
func TestGiveToAnEmptyFreeList(t *testing.T) {
	c := configOf(1, 2, 0)
	y := yardOf(t, c, 0)
	y.takeAll(t, 0, 2)
	y.begin(t, 0, y.Give(0, 0))
	y.finish(t, 0)
	y.wantTrace(t,
		api.Access{Kind: api.AccessLoad, Saw: head(2, -1)},
		api.Access{Kind: api.AccessStore, Addr: spareOf(c, 0), New: link(-1)},
		api.Access{Kind: api.AccessSwap, Old: head(2, -1), New: head(3, 0), Saw: head(2, -1)},
	)
	y.wantFree(t, 3, 0)
}

// P4.5: of a retired slot, into the cache and to the free list.
func TestGiveOfARetiredSlot(t *testing.T) {
	for cache, to := range []api.State{api.StateFree, api.StateCached} {
		y := yardOf(t, configOf(1, 2, cache), 0)
		y.takeAll(t, 0, 1)
		y.at(t, 0, func(d *machine.Desk) { y.Shift(d, 0, api.StateRetired) })
		y.begin(t, 0, y.Give(0, 0))
		y.finish(t, 0)
		want := api.Shift{Slot: 0, From: api.StateRetired, To: to}
		if got := y.lastShift(t); got != want {
			t.Errorf("Cache %d: %+v", cache, got)
		}
		y.wantState(t, 0, to, holderIn(to, 0))
	}
}

// P4.5: nothing is done, if there is no such slot or no such thread.
func TestGiveOfNothing(t *testing.T) {
	for _, cache := range []int{0, 2} {
		y := yardOf(t, configOf(2, 3, cache), 0)
		y.takeAll(t, 1, 2)
		before := y.m.Run()
		var parts []machine.Task
		for _, slot := range oddSlots {
			parts = append(parts, y.Give(1, slot), y.Give(-1, slot))
		}
		for _, thread := range []int{-1, 2, math.MinInt, math.MaxInt} {
			parts = append(parts, y.Give(thread, 0), y.Give(thread, 1))
		}
		for _, part := range parts {
			w := &watch{Task: part}
			y.begin(t, 1, w)
			if steps := y.finish(t, 1); steps != 1 || w.steps != 0 {
				t.Errorf("Cache %d: %d steps", cache, steps)
			}
		}
		y.wantOnlyCalls(t, before)
		y.wantState(t, 0, api.StateOwned, 1)
		y.wantState(t, 1, api.StateOwned, 1)
		y.wantCache(t, 1)
	}
}

// P4.5 and P4.12: a give that was overtaken begins anew with G1; the slot stays where it was.
func TestGiveOvertaken(t *testing.T) {
	c := configOf(2, 4, 0)
	y := yardOf(t, c, 0)
	y.takeAll(t, 0, 1)
	y.takeAll(t, 1, 1)
	y.begin(t, 0, y.Give(0, 0))
	y.steps(t, 0, 2)
	y.call(t, take(1))
	y.steps(t, 0, 1)
	y.wantTrace(t, api.Access{Kind: api.AccessSwap, Old: head(2, 2), New: head(3, 0), Saw: head(3, 3)})
	y.wantState(t, 0, api.StateOwned, 0)
	y.wantFree(t, 3, 3)
	y.steps(t, 0, 1)
	y.call(t, give(1, 1))
	y.steps(t, 0, 2)
	y.wantTrace(t,
		api.Access{Kind: api.AccessStore, Addr: spareOf(c, 0), New: link(3)},
		api.Access{Kind: api.AccessSwap, Old: head(3, 3), New: head(4, 0), Saw: head(4, 1)},
	)
	y.wantState(t, 0, api.StateOwned, 0)
	if steps := y.finish(t, 0); steps != 3 {
		t.Errorf("%d steps", steps)
	}
	y.wantTrace(t,
		api.Access{Kind: api.AccessLoad, Saw: head(4, 1)},
		api.Access{Kind: api.AccessStore, Addr: spareOf(c, 0), New: link(1)},
		api.Access{Kind: api.AccessSwap, Old: head(4, 1), New: head(5, 0), Saw: head(4, 1)},
	)
	y.wantFree(t, 5, 0, 1, 3)
}

// P4.13 of a give: the head names the same slot again, and the swap fails all the same.
func TestGiveAheadOfTheSameSlotAgain(t *testing.T) {
	y := yardOf(t, configOf(2, 3, 0), 0)
	y.takeAll(t, 0, 1)
	y.begin(t, 0, y.Give(0, 0))
	y.steps(t, 0, 2)
	y.call(t, take(1))
	y.call(t, give(1, 1))
	y.wantFree(t, 3, 1, 2)
	y.steps(t, 0, 1)
	y.wantTrace(t, api.Access{Kind: api.AccessSwap, Old: head(1, 1), New: head(2, 0), Saw: head(3, 1)})
	y.wantFree(t, 3, 1, 2)
	y.wantState(t, 0, api.StateOwned, 0)
}

// P4.6: an empty cache, and the one of a thread that there isn't: nothing is done.
func TestFlushOfNothing(t *testing.T) {
	y := yardOf(t, configOf(2, 3, 2), 0)
	y.takeAll(t, 1, 1)
	y.call(t, give(1, 0))
	before := y.m.Run()
	for _, thread := range []int{0, -1, 2, math.MinInt, math.MaxInt} {
		w := &watch{Task: y.Flush(thread)}
		y.begin(t, 0, w)
		if steps := y.finish(t, 0); steps != 1 || w.steps != 0 {
			t.Errorf("Flush(%d): %d steps", thread, steps)
		}
	}
	y.wantOnlyCalls(t, before)
	y.wantCache(t, 1, 0)
}

// P4.6: each slot, the one put last first, stays cached until its own G3 succeeds.
func TestFlushOfAFullCache(t *testing.T) {
	c := configOf(2, 5, 3)
	y := yardOf(t, c, 0)
	y.takeAll(t, 1, 4)
	for _, slot := range []int{1, 3, 0} {
		y.call(t, give(1, slot))
	}
	w := &watch{Task: y.Flush(1)}
	y.begin(t, 1, w)
	y.wantCache(t, 1, 1, 3, 0)
	cache, tag, first := []int{1, 3, 0}, 4, 4
	free := []int{4}
	for len(cache) > 0 {
		slot := cache[len(cache)-1]
		for range 2 {
			y.steps(t, 1, 1)
			y.wantCache(t, 1, cache...)
			y.wantState(t, slot, api.StateCached, 1)
			y.wantFree(t, uint32(tag), free...)
		}
		y.steps(t, 1, 1)
		y.wantTrace(t,
			api.Access{Thread: 1, Kind: api.AccessLoad, Saw: head(tag, first)},
			api.Access{Thread: 1, Kind: api.AccessStore, Addr: spareOf(c, slot), New: link(first)},
			api.Access{Thread: 1, Kind: api.AccessSwap, Old: head(tag, first), New: head(tag+1, slot), Saw: head(tag, first)},
		)
		want := api.Shift{Thread: 1, Slot: slot, From: api.StateCached, To: api.StateFree}
		if got := y.lastShift(t); got != want {
			t.Errorf("slot %d: %+v", slot, got)
		}
		cache = cache[:len(cache)-1]
		tag, first = tag+1, slot
		free = append([]int{slot}, free...)
		y.wantCache(t, 1, cache...)
		y.wantState(t, slot, api.StateFree, -1)
		y.wantFree(t, uint32(tag), free...)
		if w.ended != (len(cache) == 0) {
			t.Errorf("%d slots left, ended: %v", len(cache), w.ended)
		}
	}
	if y.m.Busy(1) || w.steps != 9 || w.readies != 1 {
		t.Errorf("%+v", w)
	}
	y.wantState(t, 2, api.StateOwned, 1)
}

// P4.6: a flush that was overtaken gives the same slot anew.
func TestFlushOvertaken(t *testing.T) {
	c := configOf(2, 5, 2)
	y := yardOf(t, c, 0)
	y.takeAll(t, 0, 2)
	y.call(t, give(0, 0))
	y.call(t, give(0, 1))
	y.begin(t, 0, y.Flush(0))
	y.steps(t, 0, 2)
	y.takeAll(t, 1, 1)
	y.steps(t, 0, 1)
	y.wantTrace(t, api.Access{Kind: api.AccessSwap, Old: head(2, 2), New: head(3, 1), Saw: head(3, 3)})
	y.wantCache(t, 0, 0, 1)
	y.wantState(t, 1, api.StateCached, 0)
	y.steps(t, 0, 3)
	y.wantCache(t, 0, 0)
	y.wantFree(t, 4, 1, 3, 4)
	y.steps(t, 0, 2)
	y.takeAll(t, 1, 1)
	y.steps(t, 0, 1)
	y.wantCache(t, 0, 0)
	if steps := y.finish(t, 0); steps != 3 {
		t.Errorf("%d steps", steps)
	}
	y.wantCache(t, 0)
	y.wantFree(t, 6, 0, 3, 4)
}

// P5: parts of one thread that are under way at the same time, which no machine makes, end.
func TestPartsOfOneThreadAtOnce(t *testing.T) {
	y := yardOf(t, configOf(2, 4, 2), 0)
	y.takeAll(t, 0, 3)
	y.call(t, give(0, 0))
	y.call(t, give(0, 1))
	first, second := y.Flush(0), y.Flush(0)
	y.at(t, 0, func(d *machine.Desk) { second.Ready(d) })
	y.begin(t, 0, first)
	y.steps(t, 0, 2)
	y.at(t, 1, func(d *machine.Desk) {
		if part := y.Take(0); !part.Ready(d) || part.Slot() != 1 {
			t.Errorf("Slot() = %d", part.Slot())
		}
		if part := y.Take(0); !part.Ready(d) || part.Slot() != 0 {
			t.Errorf("Slot() = %d", part.Slot())
		}
	})
	if steps := y.finish(t, 0); steps != 1 {
		t.Errorf("%d steps", steps)
	}
	y.begin(t, 0, stepsOnly{second})
	y.finish(t, 0)
	y.wantCache(t, 0)
}
