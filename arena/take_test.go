package arena_test

import (
	"math"
	"testing"

	"reclaim/api"
	"reclaim/machine"
)

// watch is a part that tells what it answered last; it fails where a take tells a slot too early.
type watch struct {
	machine.Task
	readies, steps int
	ended          bool
}

func (w *watch) Ready(d *machine.Desk) bool {
	w.readies++
	w.ended = w.Task.Ready(d)
	return w.ended
}

func (w *watch) Step(d *machine.Desk) bool {
	w.steps++
	w.ended = w.Task.Step(d)
	return w.ended
}

// P4.4: a take from the free list has A1, A2 and A3; Slot is -1 till it has ended.
func TestTakeFromTheFreeList(t *testing.T) {
	c := configOf(2, 3, 1)
	y := yardOf(t, c, 1)
	part := y.Take(1)
	w := &watch{Task: part}
	y.begin(t, 1, w)
	for range 2 {
		if part.Slot() != -1 || w.ended {
			t.Errorf("behind %d steps: Slot() = %d, %v", w.steps, part.Slot(), w.ended)
		}
		y.steps(t, 1, 1)
		y.wantState(t, 1, api.StateFree, -1)
		y.wantFree(t, 0, 1, 2)
	}
	if part.Slot() != -1 || w.ended {
		t.Errorf("ahead of the swap: Slot() = %d, %v", part.Slot(), w.ended)
	}
	y.steps(t, 1, 1)
	if part.Slot() != 1 || !w.ended || w.readies != 1 || w.steps != 3 || y.m.Busy(1) {
		t.Errorf("Slot() = %d, %+v", part.Slot(), w)
	}
	y.wantTrace(t,
		api.Access{Thread: 1, Kind: api.AccessLoad, Saw: head(0, 1)},
		api.Access{Thread: 1, Kind: api.AccessLoad, Addr: spareOf(c, 1), Saw: link(2)},
		api.Access{Thread: 1, Kind: api.AccessSwap, Old: head(0, 1), New: head(1, 2), Saw: head(0, 1)},
	)
	y.wantState(t, 1, api.StateOwned, 1)
	y.wantFree(t, 1, 2)
	y.wantCache(t, 1)
}

// P4.4: the last slot leaves a head without a slot, and then there is none.
func TestTakeTheLastAndNone(t *testing.T) {
	c := configOf(2, 3, 1)
	y := yardOf(t, c, 2)
	last := y.Take(0)
	y.begin(t, 0, last)
	if steps := y.finish(t, 0); steps != 3 || last.Slot() != 2 {
		t.Errorf("%d steps, Slot() = %d", steps, last.Slot())
	}
	y.wantTrace(t,
		api.Access{Kind: api.AccessLoad, Saw: head(0, 2)},
		api.Access{Kind: api.AccessLoad, Addr: spareOf(c, 2), Saw: link(-1)},
		api.Access{Kind: api.AccessSwap, Old: head(0, 2), New: head(1, -1), Saw: head(0, 2)},
	)
	y.wantFree(t, 1)
	before := y.m.Run()
	for thread := range 2 {
		part := y.Take(thread)
		y.begin(t, thread, part)
		if steps := y.finish(t, thread); steps != 1 || part.Slot() != -1 {
			t.Errorf("%d steps, Slot() = %d", steps, part.Slot())
		}
		y.wantTrace(t, api.Access{Thread: thread, Kind: api.AccessLoad, Saw: head(1, -1)})
	}
	if r := y.m.Run(); len(r.Shifts) != len(before.Shifts) || len(r.Trace) != len(before.Trace)+2 {
		t.Errorf("%+v", r)
	}
}

// P4.4: the slot put last leaves the cache first, without an access; only the own cache counts.
func TestTakeFromTheCache(t *testing.T) {
	y := yardOf(t, configOf(2, 4, 2), 0)
	for _, mv := range []api.Move{take(0), take(0), take(0), give(0, 2), give(0, 0)} {
		y.call(t, mv)
	}
	y.wantCache(t, 0, 2, 0)
	accesses := len(y.m.Run().Trace)
	for i, want := range []int{0, 2} {
		part := y.Take(0)
		y.begin(t, 0, part)
		y.wantState(t, want, api.StateCached, 0)
		if steps := y.finish(t, 0); steps != 1 || part.Slot() != want {
			t.Errorf("take %d: %d steps, Slot() = %d", i, steps, part.Slot())
		}
		y.wantState(t, want, api.StateOwned, 0)
		shifts := y.m.Run().Shifts
		s := shifts[len(shifts)-1]
		if s.Slot != want || s.From != api.StateCached || s.To != api.StateOwned || s.Thread != 0 || s.Move != y.m.Moves()-1 {
			t.Errorf("take %d: %+v", i, s)
		}
	}
	y.wantCache(t, 0)
	if got := len(y.m.Run().Trace); got != accesses {
		t.Errorf("%d accesses, not %d", got, accesses)
	}
	y.call(t, give(0, 1))
	part := y.Take(1)
	y.begin(t, 1, part)
	if steps := y.finish(t, 1); steps != 3 || part.Slot() != 3 {
		t.Errorf("the other thread: %d steps, Slot() = %d", steps, part.Slot())
	}
	y.wantCache(t, 0, 1)
}

// P4.4: the cache is looked at when the part begins, not when it is made, nor later.
func TestTakeLooksIntoTheCacheOnce(t *testing.T) {
	y := yardOf(t, configOf(1, 3, 2), 0)
	part := y.Take(0)
	y.call(t, take(0))
	y.call(t, give(0, 0))
	y.begin(t, 0, part)
	if y.finish(t, 0); part.Slot() != 0 {
		t.Errorf("Slot() = %d", part.Slot())
	}
	second, third := y.Take(0), y.Take(0)
	y.at(t, 0, func(d *machine.Desk) {
		if second.Ready(d) {
			t.Error("a take from an empty cache has ended")
		}
		if g := y.Give(0, 0); !g.Ready(d) {
			t.Error("a give with room has not ended")
		}
	})
	y.begin(t, 0, &watch{Task: stepsOnly{second}})
	if y.finish(t, 0); second.Slot() != 1 {
		t.Errorf("Slot() = %d", second.Slot())
	}
	y.wantCache(t, 0, 0)
	y.begin(t, 0, third)
	if y.finish(t, 0); third.Slot() != 0 {
		t.Errorf("Slot() = %d", third.Slot())
	}
}

// stepsOnly is a part whose Ready was called already.
type stepsOnly struct {
	machine.Task
}

func (s stepsOnly) Ready(*machine.Desk) bool { return false }

// P4.4: a thread that there isn't has an empty cache, and takes from the free list; the holder is
// the thread whose step it is.
func TestTakeByNobody(t *testing.T) {
	for _, nobody := range []int{-1, 2, math.MinInt, math.MaxInt} {
		y := yardOf(t, configOf(2, 3, 1), 0)
		y.call(t, take(1))
		y.call(t, give(1, 0))
		part := y.Take(nobody)
		y.begin(t, 1, part)
		if steps := y.finish(t, 1); steps != 3 || part.Slot() != 1 {
			t.Errorf("Take(%d): %d steps, Slot() = %d", nobody, steps, part.Slot())
		}
		y.wantState(t, 1, api.StateOwned, 1)
		y.wantCache(t, 1, 0)
	}
}

// P4.4 and P4.12: a swap that was overtaken fails, by a take as by a give, and A1 comes next.
func TestTakeOvertaken(t *testing.T) {
	c := configOf(2, 4, 0)
	for name, over := range map[string]struct {
		move  api.Move
		first uint64
		slot  int
	}{
		"by a take": {take(1), head(2, 2), 2},
		"by a give": {give(1, 0), head(2, 0), 0},
	} {
		y := yardOf(t, c, 0)
		y.call(t, take(1))
		part := y.Take(0)
		y.begin(t, 0, part)
		y.steps(t, 0, 2)
		y.call(t, over.move)
		y.steps(t, 0, 1)
		y.wantTrace(t, api.Access{Kind: api.AccessSwap, Old: head(1, 1), New: head(2, 2), Saw: over.first})
		if part.Slot() != -1 || !y.m.Busy(0) {
			t.Errorf("%s: Slot() = %d behind a swap that fails", name, part.Slot())
		}
		y.steps(t, 0, 1)
		y.wantTrace(t, api.Access{Kind: api.AccessLoad, Saw: over.first})
		if steps := y.finish(t, 0); steps != 2 || part.Slot() != over.slot {
			t.Errorf("%s: %d steps, Slot() = %d", name, steps, part.Slot())
		}
		y.wantState(t, over.slot, api.StateOwned, 0)
	}
}

// P4.4: overtaken by the take of the last slot there is none; and what is overtaken can be so again.
func TestTakeOvertakenAgain(t *testing.T) {
	y := yardOf(t, configOf(2, 3, 0), 0)
	part := y.Take(0)
	y.begin(t, 0, part)
	for range 3 {
		y.steps(t, 0, 2)
		y.call(t, take(1))
		y.steps(t, 0, 1)
		if part.Slot() != -1 || !y.m.Busy(0) {
			t.Errorf("Slot() = %d behind a swap that fails", part.Slot())
		}
	}
	if steps := y.finish(t, 0); steps != 1 || part.Slot() != -1 {
		t.Errorf("%d steps, Slot() = %d", steps, part.Slot())
	}
}

// P4.13: between A1 and A3 the head names the same slot again, with another one behind it: the tag
// tells.
func TestTakeOfTheSameSlotAgain(t *testing.T) {
	c := configOf(2, 4, 0)
	for loads := 1; loads <= 2; loads++ {
		y := yardOf(t, c, 0)
		part := y.Take(0)
		y.begin(t, 0, part)
		y.steps(t, 0, loads)
		for _, mv := range []api.Move{take(1), take(1), give(1, 0)} {
			y.call(t, mv)
		}
		y.wantFree(t, 3, 0, 2, 3)
		y.steps(t, 0, 3-loads)
		behind := map[int]int{1: 2, 2: 1}[loads] // the slot that A2 found behind slot 0
		y.wantTrace(t, api.Access{Kind: api.AccessSwap, Old: head(0, 0), New: head(1, behind), Saw: head(3, 0)})
		y.wantFree(t, 3, 0, 2, 3)
		y.wantState(t, 0, api.StateFree, -1)
		y.wantState(t, 1, api.StateOwned, 1)
		if part.Slot() != -1 || !y.m.Busy(0) {
			t.Errorf("Slot() = %d", part.Slot())
		}
		if steps := y.finish(t, 0); steps != 3 || part.Slot() != 0 {
			t.Errorf("%d steps, Slot() = %d", steps, part.Slot())
		}
		y.wantFree(t, 4, 2, 3)
	}
}
