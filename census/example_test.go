package census_test

import (
	"testing"

	"reclaim/api"
	"reclaim/hazard"
)

// posted is the run of chapter 5's examples 1 and 2: thread 0 registers, and posts.
func posted(t *testing.T) *tale {
	t.Helper()
	x := taleOf(small(), 0)
	r, e := hazard.Play(x.c, []api.Move{{Op: api.OpRegister}, {}, {}, {}, {Op: api.OpPost, Arg: 5}, {}, {}, {}, {}, {}, {}})
	if e != api.OK {
		t.Fatalf("Play = %d", e)
	}
	x.r = r
	return x
}

func TestExample1(t *testing.T) {
	x := posted(t)
	x.wantMay(t, "the first example", true)
	x.wantPeaks(t, "the first example", api.Peaks{Owned: 1, Linked: 1, Gap: 5, Steps: 6})
	x.wantFaults(t, "the first example")
	x.wantDishonest(t, "the first example")
}

func TestExample2(t *testing.T) {
	taleOf(tiny(), 0).shift(1, 0, 0, api.StateOwned).wantRefused(t, "a shift without calls")
	x := taleOf(tiny(), 0, open(0, api.OpPost, 0)).load(1, 0, 0)
	x.wantMay(t, "a load", true)
	x.r.Trace[0].Saw++
	x.wantRefused(t, "a load that saw another word")
}

func TestExample3(t *testing.T) {
	taleOf(tiny(), 0, open(0, api.OpPost, 0)).shift(1, 0, 0, api.StateLinked).
		wantFaults(t, "from Free to Linked", api.Fault{Kind: api.FaultShift, Move: 1, Slot: 0})
	x := taleOf(small(), 0, open(0, api.OpPost, 0), open(1, api.OpPost, 1))
	x.shift(2, 0, 2, api.StateOwned).store(3, 1, addrOf(x.c, api.RegionValue, 2, 0), 5).
		wantFaults(t, "another's slot", api.Fault{Kind: api.FaultForeign, Move: 3, Slot: 2})
}
