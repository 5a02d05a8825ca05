package tower_test

import (
	"slices"
	"strings"
	"testing"

	"reclaim/api"
)

const (
	free     = api.StateFree
	cached   = api.StateCached
	owned    = api.StateOwned
	linked   = api.StateLinked
	detached = api.StateDetached
	retired  = api.StateRetired
)

// P18.2, part 6: slots at the beginning, linked and free, are not told.
func TestNoSlots(t *testing.T) {
	taleOf(small()).wantLines(t, "the beginning", "slot")
	two().wantLines(t, "no shifts", "slot")
}

// P18.2, part 6: each state by itself, with its holder.
func TestSlotsOfEachState(t *testing.T) {
	for thread, name := range []string{"0", "1"} {
		for state, want := range map[api.State][]string{
			free: nil, linked: nil, cached: {"slot 3 cached thread " + name}, owned: {"slot 3 owned thread " + name},
			detached: {"slot 3 detached thread " + name}, retired: {"slot 3 retired thread " + name},
		} {
			two().shift(4, thread, 3, state).wantLines(t, "one shift", "slot", want...)
			two().shift(4, 1-thread, 3, owned, cached, retired, detached).shift(5, thread, 3, linked, state).wantLines(t, "several shifts", "slot", want...)
		}
	}
}

// P18.2, part 6: several slots, by rising slot, whenever they came to be so; slot 0 and the last one too.
func TestSlotsInOrder(t *testing.T) {
	x := two().shift(4, 1, 5, retired).shift(5, 0, 2, cached, linked).shift(6, 1, 0, detached).shift(7, 0, 4, owned).shift(8, 1, 3, cached, free).shift(9, 0, 1, cached)
	x.wantLines(t, "six slots", "slot", "slot 0 detached thread 1", "slot 1 cached thread 0", "slot 4 owned thread 0", "slot 5 retired thread 1")
	x.shift(10, 0, 5, free).shift(11, 1, 4, linked).shift(12, 1, 2, owned, cached)
	x.wantLines(t, "and on", "slot", "slot 0 detached thread 1", "slot 1 cached thread 0", "slot 2 cached thread 1")
	x.shift(13, 0, 2, cached).wantLines(t, "another holder", "slot", "slot 0 detached thread 1", "slot 1 cached thread 0", "slot 2 cached thread 0")
}

// P18.2, part 6: behind all shifts, also of the greatest move that there is.
func TestSlotsBehindTheLastMove(t *testing.T) {
	two().shift(greatest, 1, 3, retired).wantLines(t, "the greatest move", "slot", "slot 3 retired thread 1")
	two().shift(greatest-1, 1, 3, retired).shift(greatest, 0, 3, cached, owned).wantLines(t, "the greatest move", "slot", "slot 3 owned thread 0")
	two().shift(greatest-1, 1, 3, retired).shift(greatest, 0, 3, free).wantLines(t, "the greatest move", "slot")
}

// P18.2, part 6: many slots.
func TestManySlots(t *testing.T) {
	x := taleOf(configOf(1, 1, 3, 1, 0, 1024, 1), open(0, 77, 0, 0))
	for slot := range 1024 {
		x.shift(1024-slot, 0, 1023-slot, owned)
	}
	slices.SortFunc(x.r.Shifts, func(a, b api.Shift) int { return a.Move - b.Move })
	got := linesOf(x.reported(t), "slot")
	if len(got) != 1024 || got[0] != "slot 0 owned thread 0" || got[9] != "slot 9 owned thread 0" || got[10] != "slot 10 owned thread 0" || got[1023] != "slot 1023 owned thread 0" {
		t.Errorf("%d lines: %q", len(got), got[:min(len(got), 12)])
	}
}

// P18.2, part 6: of a script: a slot that is cached, one owned, one on its way out, one that waits in a list.
func TestSlotsOfScripts(t *testing.T) {
	const first = "machine threads 2 records 2 hazards 3 retire 4 cache 1 slots 6 buckets 1\n0 register\n0 . 2\n1 register\n1 . 4\n"
	text := first + "0 take\n0 . 9\n0 take\n0 . 9\n0 give 1\n0 . 9\n1 push 5\n1 . 9\n1 push 6\n1 . 9\n1 pop\n1 . 9\n1 pop\n1 . 5\n"
	want := []string{"slot 1 cached thread 0", "slot 2 owned thread 0", "slot 3 detached thread 1", "slot 4 retired thread 1"}
	if got := linesOf(ran(t, text), "slot"); !slices.Equal(got, want) {
		t.Errorf("%q, not %q", got, want)
	}
	if got := linesOf(ran(t, strings.TrimSuffix(text, "1 pop\n1 . 5\n")), "slot"); !slices.Equal(got, slices.Delete(want, 2, 3)) {
		t.Errorf("%q", got)
	}
}
