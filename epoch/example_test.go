package epoch_test

import (
	"testing"

	"reclaim/api"
	"reclaim/epoch"
)

// The chapter's examples, access by access.
func TestExamples(t *testing.T) {
	y := yardOf(t, example())
	// 1.
	y.tells(t, pin(0), story{done, -1, []api.Access{load(0, 23, 0), store(0, 24, 1), load(0, 23, 0)}, nil})
	y.tells(t, stow(0, 5), story{done, 6, []api.Access{
		load(0, 0, head(0, 0)), load(0, 11, link(1)), swap(0, 0, head(0, 0), head(1, 1)),
		store(0, 14, 5), load(0, 2, 0), store(0, 20, 0), swap(0, 2, 0, link(0)),
	}, []api.Shift{
		shift(2, 0, 0, api.StateFree, api.StateOwned), shift(6, 0, 0, api.StateOwned, api.StateLinked),
	}})
	y.wantStack(t, 5)
	y.tells(t, draw(0), story{value(5), 2, []api.Access{
		load(0, 2, 1), load(0, 20, 0), swap(0, 2, 1, 0), load(0, 14, 5), load(0, 23, 0),
	}, []api.Shift{
		shift(2, 0, 0, api.StateLinked, api.StateDetached), shift(4, 0, 0, api.StateDetached, api.StateRetired),
	}})
	y.wantStack(t)
	// 2.
	y.tells(t, pin(1), story{done, -1, []api.Access{load(1, 23, 0), store(1, 25, 1), load(1, 23, 0)}, nil})
	y.tells(t, unpin(0), story{done, -1, []api.Access{store(0, 24, 0)}, nil})
	y.tells(t, advance(0), story{yes, -1, []api.Access{
		load(0, 23, 0), load(0, 24, 0), load(0, 25, 1), swap(0, 23, 0, 1),
	}, nil})
	y.tells(t, advance(0), story{no, -1, []api.Access{load(0, 23, 1), load(0, 24, 0), load(0, 25, 1)}, nil})
	y.tells(t, collect(0), story{done, -1, []api.Access{load(0, 23, 1)}, nil})
	// 3.
	y.tells(t, unpin(1), story{done, -1, []api.Access{store(1, 25, 0)}, nil})
	y.tells(t, advance(0), story{yes, -1, []api.Access{
		load(0, 23, 1), load(0, 24, 0), load(0, 25, 0), swap(0, 23, 1, 2),
	}, nil})
	y.tells(t, collect(0), story{done, -1, []api.Access{
		load(0, 23, 2), load(0, 0, head(1, 1)), store(0, 11, link(1)), swap(0, 0, head(1, 1), head(2, 0)),
	}, []api.Shift{shift(3, 0, 0, api.StateRetired, api.StateFree)}})
	y.wantFree(t, 0, 1, 2)
	if so, e := epoch.Holds(example(), y.m.Run()); !so || e != api.OK {
		t.Errorf("Holds = %v, %d", so, e)
	}
}

// The chapter's addresses.
func TestExampleAddresses(t *testing.T) {
	c := example()
	for _, x := range [][3]int{
		{epochAt(c), 23, -1}, {localAt(c, 0), 24, 0}, {localAt(c, 1), 25, 1},
	} {
		if addr, e := epoch.Local(c, x[2]); addr != x[1] || x[0] != x[1] || e != api.OK {
			t.Errorf("Local(%d) = %d, %d; by hand %d, not %d", x[2], addr, e, x[0], x[1])
		}
	}
}
