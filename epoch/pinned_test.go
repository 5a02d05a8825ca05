package epoch_test

import (
	"slices"
	"testing"

	"reclaim/api"
	"reclaim/epoch"
)

func wantPinned(t *testing.T, c api.Config, r api.Run, want ...int) {
	t.Helper()
	if got, e := epoch.Pinned(c, r); !slices.Equal(got, want) || e != api.OK {
		t.Errorf("Pinned = %v, %d, not %v", got, e, want)
	}
}

// P20.4: what is told goes with what the threads do.
func TestPinnedOfAMachine(t *testing.T) {
	y := yardOf(t, configOf(3, 2, 0, 3))
	asks := func(want ...int) {
		t.Helper()
		wantPinned(t, y.c, y.m.Run(), want...)
	}
	asks(-1, -1, -1)
	y.calls(t, yes, advance(0), advance(0))
	asks(-1, -1, -1)
	y.make(t, pin(1))
	asks(-1, -1, -1)
	y.steps(t, 1, 2) // the local word is stored, but the call has not ended
	asks(-1, -1, -1)
	y.steps(t, 1, 1)
	asks(-1, 2, -1)
	y.calls(t, yes, advance(0))
	y.calls(t, done, pin(2))
	asks(-1, 2, 3)
	y.make(t, unpin(1))
	asks(-1, 2, 3)
	y.steps(t, 1, 1)
	asks(-1, -1, 3)
	y.calls(t, yes, advance(0))
	y.make(t, pin(1))
	y.steps(t, 1, 2) // behind an unpin that has ended a pin that has not
	asks(-1, -1, 3)
	y.steps(t, 1, 1)
	asks(-1, 4, 3)
}

// P20.4: it hangs on the calls' Thread, Op and End in the list's order, and on the local words; on nothing else.
func TestPinnedOfRawRuns(t *testing.T) {
	c := example()
	words := make([]uint64, 26)
	words[23], words[24], words[25] = 9, 5, 8
	in := api.Call{Op: api.OpPin, End: 3, Begin: 7, Point: 4, Answer: full}
	out := api.Call{Op: api.OpUnpin, End: 0}
	going, leaving := in, out
	going.End, leaving.End = -1, -1
	other := func(x api.Call) api.Call { x.Thread = 1; return x }
	at := func(thread int) api.Call { x := in; x.Thread = thread; return x }
	for i, x := range []struct {
		calls []api.Call
		want  []int
	}{
		{nil, []int{-1, -1}},
		{[]api.Call{in}, []int{4, -1}},
		{[]api.Call{other(in)}, []int{-1, 7}},
		{[]api.Call{in, other(in)}, []int{4, 7}},
		{[]api.Call{out}, []int{-1, -1}},
		{[]api.Call{in, out}, []int{-1, -1}},
		{[]api.Call{out, in}, []int{4, -1}}, // the list's order, whatever the moves
		{[]api.Call{in, in}, []int{4, -1}},
		{[]api.Call{in, out, in, out, in}, []int{4, -1}},
		{[]api.Call{going}, []int{-1, -1}},
		{[]api.Call{in, out, going}, []int{-1, -1}},
		{[]api.Call{in, leaving}, []int{4, -1}},
		{[]api.Call{in, leaving, going}, []int{4, -1}},
		{[]api.Call{in, other(out)}, []int{4, -1}},
		{[]api.Call{{Op: api.OpPin, End: -2}}, []int{4, -1}}, // an End that is not -1
		{[]api.Call{in, {Op: api.OpStow, End: 9}, {Op: api.OpDraw, End: 9}, {Op: api.OpAdvance, End: 9}, {Op: api.OpCollect, End: 9}, {Op: api.OpStep, End: 9}, {Op: api.OpRegister, End: 9}}, []int{4, -1}},
		{[]api.Call{{Op: api.OpStow, End: 9}, {Op: 79, End: 1}, {Op: 86, End: 1}}, []int{-1, -1}},
		{[]api.Call{at(-1), at(2), at(1 << 62), at(-1 << 63)}, []int{-1, -1}}, // threads that there aren't
	} {
		got, e := epoch.Pinned(c, api.Run{Calls: x.calls, Words: words})
		if !slices.Equal(got, x.want) || e != api.OK {
			t.Errorf("%d: Pinned = %v, %d, not %v", i, got, e, x.want)
		}
	}
}

// P20.4: the local word less 1, as a number, whatever word it is.
func TestPinnedOfRawWords(t *testing.T) {
	c := example()
	in := []api.Call{{Op: api.OpPin, End: 3}, {Op: api.OpPin, End: 4, Thread: 1}}
	for w, want := range map[uint64]int{
		0: -1, 1: 0, 2: 1, 1 << 40: 1<<40 - 1, 1<<63 - 1: 1<<63 - 2, 1 << 63: 1<<63 - 1, 1<<63 + 1: -1 << 63, 1<<64 - 1: -2,
	} {
		words := make([]uint64, 26)
		words[24] = w
		wantPinned(t, c, api.Run{Calls: in, Words: words}, want, -1)
		words[24], words[25] = 0, w
		wantPinned(t, c, api.Run{Calls: in, Words: words}, -1, want)
	}
}

// P20.4: ErrRange, if there are too few words, or too many.
func TestPinnedErrRange(t *testing.T) {
	for _, c := range edges() {
		first, _ := epoch.Words(c)
		want := slices.Repeat([]int{-1}, c.Threads)
		wantPinned(t, c, api.Run{Words: first}, want...)
		for _, count := range []int{0, 1, len(first) - c.Threads - 1, len(first) - c.Threads, len(first) - 1, len(first) + 1, 2 * len(first)} {
			if got, e := epoch.Pinned(c, api.Run{Words: make([]uint64, count)}); got != nil || e != api.ErrRange {
				t.Errorf("Pinned with %d words, not %d = %v, %d", count, len(first), got, e)
			}
		}
	}
}

// P20.4 of all runs: as the simplest machine knows it.
func TestPinnedAgainstThePlainMachine(t *testing.T) {
	eachChance(60, func(c api.Config, moves []api.Move) {
		p := plainOf(c)
		defer p.leave()
		for _, mv := range moves {
			p.move(mv)
			want := slices.Repeat([]int{-1}, c.Threads)
			for thread, pinned := range p.pinned {
				if pinned {
					want[thread] = int(p.run.Words[localAt(c, thread)]) - 1
				}
			}
			wantPinned(t, c, p.run, want...)
		}
	})
}
