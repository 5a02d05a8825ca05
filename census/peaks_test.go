package census_test

import (
	"testing"

	"reclaim/api"
)

// P13.4: without shifts the slots that were used are linked; without steps there is no gap.
func TestPeaksOfNothing(t *testing.T) {
	for used := range 4 {
		taleOf(small(), used).wantPeaks(t, "nothing", api.Peaks{Linked: used})
		taleOf(small(), used, open(0, api.OpPush, 3)).wantPeaks(t, "a call that made no step", api.Peaks{Linked: used})
	}
}

// P13.4: of each state the greatest number at one time, behind each shift and not only behind its move.
func TestPeaksOfStates(t *testing.T) {
	pair().shift(5, 0, 0, owned).shift(6, 0, 1, owned).shift(7, 0, 0, free).wantPeaks(t, "owned", api.Peaks{Owned: 2})
	pair().shift(5, 0, 0, cached).shift(6, 1, 1, cached).shift(7, 1, 2, cached).shift(8, 0, 1, free).wantPeaks(t, "cached", api.Peaks{Cached: 3})
	pair().shift(5, 0, 0, linked).shift(6, 1, 1, linked).shift(6, 1, 0, free).shift(8, 0, 2, linked).wantPeaks(t, "linked", api.Peaks{Linked: 2})
	pair().shift(5, 0, 0, detached).shift(6, 0, 0, free, detached).wantPeaks(t, "detached", api.Peaks{Detached: 1})
	pair().shift(5, 0, 0, retired).shift(6, 1, 2, retired).wantPeaks(t, "retired", api.Peaks{Retired: 2})
	pair().shift(5, 0, 0, owned, linked, detached, retired, cached, free).
		wantPeaks(t, "all in a move", api.Peaks{Cached: 1, Owned: 1, Linked: 1, Detached: 1, Retired: 1})
	pair().shift(5, 0, 0, owned).shift(5, 0, 1, owned, free).shift(5, 0, 0, free).wantPeaks(t, "two in a move's midst", api.Peaks{Owned: 2})
	taleOf(small(), 3, open(0, api.OpPush, 0)).shift(5, 0, 0, detached).shift(6, 0, 1, detached).shift(7, 0, 1, linked).
		wantPeaks(t, "linked at the beginning", api.Peaks{Linked: 3, Detached: 2})
	taleOf(small(), 2, open(0, api.OpPush, 0)).shift(5, 0, 2, owned, linked).shift(6, 0, 2, linked).
		wantPeaks(t, "linked to linked", api.Peaks{Linked: 3, Owned: 1})
}

// P13.4: Gap is of steps alone: moves with an access or an end, whatever lies between, of whichever threads.
func TestGap(t *testing.T) {
	c := small()
	ends := func(at ...int) []api.Call { // calls of thread 0 that end there
		var out []api.Call
		begin := 0
		for _, end := range at {
			out = append(out, call(0, api.OpPush, begin, end, done))
			begin = end + 1
		}
		return out
	}
	taleOf(c, 0, ends(5, 9, 17)...).wantPeaks(t, "ends without accesses", api.Peaks{Steps: 1})
	taleOf(c, 0, ends(5)...).load(5, 0, 0).wantPeaks(t, "an access in the move of the end", api.Peaks{Steps: 1})
	taleOf(c, 0, ends(5)...).load(3, 0, 0).load(4, 0, 0).wantPeaks(t, "two steps ahead of the end", api.Peaks{Steps: 3, Gap: 2})
	taleOf(c, 0, ends(50, 90)...).load(3, 0, 0).load(40, 0, 0).load(60, 0, 0).load(70, 0, 0).load(75, 0, 0).load(90, 0, 0).
		wantPeaks(t, "moves between", api.Peaks{Steps: 4, Gap: 3})
	taleOf(c, 0, ends(50, 90)...).load(3, 0, 0).load(40, 0, 0).load(49, 0, 0).load(50, 0, 0).load(70, 0, 0).
		wantPeaks(t, "the first gap is the greatest", api.Peaks{Steps: 4, Gap: 3})
	x := taleOf(c, 0, append(ends(10), open(0, api.OpPush, 11))...)
	x.load(3, 0, 0).load(12, 0, 0).load(13, 0, 0).load(14, 0, 0).wantPeaks(t, "a gap at the end of the run", api.Peaks{Steps: 3, Gap: 3})
	x.shift(15, 0, 0, owned).shift(16, 0, 0, free).wantPeaks(t, "moves of shifts alone are no steps", api.Peaks{Steps: 3, Gap: 3, Owned: 1})
	x.load(17, 0, 0).wantPeaks(t, "nor do they part the steps", api.Peaks{Steps: 4, Gap: 4, Owned: 1})
	x = taleOf(c, 0, open(0, api.OpPush, 0), call(1, api.OpPush, 1, 6, done))
	x.load(2, 0, 0).load(3, 1, 0).load(4, 0, 0).load(7, 0, 0).wantPeaks(t, "steps of two threads", api.Peaks{Steps: 3, Gap: 3})
	taleOf(c, 0, open(0, api.OpPush, 0)).load(greatest-1, 0, 0).load(greatest, 0, 0).wantPeaks(t, "the greatest moves", api.Peaks{Steps: 2, Gap: 2})
	taleOf(c, 0, at(4, call(0, api.OpPush, 0, 6, done)), at(5, open(1, api.OpPush, 1))).wantPeaks(t, "points are no steps", api.Peaks{Steps: 1})
}

// P13.4: Steps is of one call: its thread's accesses, and its end if that made none.
func TestSteps(t *testing.T) {
	c := small()
	x := taleOf(c, 0, call(0, api.OpPush, 0, 9, done), call(1, api.OpPush, 1, 12, done), open(0, api.OpPush, 11))
	x.load(2, 0, 0).load(3, 1, 0).load(4, 1, 0).load(5, 0, 0).load(9, 0, 0)
	x.wantPeaks(t, "an end with an access", api.Peaks{Steps: 3, Gap: 4})
	x.load(10, 1, 0)
	x.wantPeaks(t, "an end without one", api.Peaks{Steps: 4, Gap: 4})
	x.load(13, 0, 0).load(14, 0, 0).load(15, 0, 0).load(16, 0, 0)
	x.wantPeaks(t, "the thread's next call has its own", api.Peaks{Steps: 4, Gap: 4})
	x.load(17, 0, 0)
	x.wantPeaks(t, "one that has not ended", api.Peaks{Steps: 5, Gap: 5})
}
