package explore_test

import (
	"slices"
	"testing"

	"reclaim/api"
	"reclaim/explore"
)

// P15.4: numbers count the calls that belong to an object, in the order in which they began; those that belong to none
// stand ahead, between and behind.
func TestExplainedOfOtherCalls(t *testing.T) {
	c := example()
	p := api.Programs{{call(api.OpScan, 0), push(1), call(api.OpFlush, 0), call(api.OpPop, 0), call(api.OpClear, 0)}, {call(api.OpClear, 1)}}
	wantExplained(t, "turns", c, p, 0, []int{0, 1})
	if outcomes, _ := all(t, c, p, 0); len(outcomes) != 1 || outcomes[0].Count != 2 {
		t.Errorf("%v", outcomes)
	}
	for _, op := range []api.Op{api.OpFlush, api.OpUnregister, api.OpClear, api.OpScan, 99} {
		wantExplained(t, "none of an object", c, api.Programs{{call(op, 0)}, {call(op, 0)}}, 0, nil)
	}
	wantExplained(t, "none of an object, two outcomes", c, api.Programs{{call(api.OpTake, 0)}, {call(api.OpTake, 0)}}, 0, nil, nil)
	wantExplained(t, "none at all", c, api.Programs{nil, {}}, 0, nil)
}

// P15.4: the least order of all that explain the calls, not the one of the points or of the picks.
func TestExplainedIsTheLeast(t *testing.T) {
	c := example()
	// A push begins, a pop finds nothing, and the push goes on: only 1, 0 explains them.
	p := api.Programs{{push(5)}, pops(1)}
	wantExplained(t, "a push that comes too late", c, p, 1, []int{0, 1}, []int{1, 0})
	// Calls of unlike objects can change places, so the one that began first stands first.
	p = api.Programs{{push(5)}, {call(api.OpEnqueue, 6)}}
	orders, _ := explore.Explained(c, p, 1)
	if len(orders) != 1 || !slices.Equal(orders[0], []int{0, 1}) {
		t.Errorf("%v", orders)
	}
	// Thread 1's calls are one behind the other.
	p = api.Programs{{push(5)}, pops(2)}
	outcomes, _ := all(t, c, p, 2)
	for i, order := range mustExplain(t, c, p, 2) {
		want := []int{0, 1, 2}
		switch {
		case outcomes[i].Answers[1] == empty && outcomes[i].Answers[2] == empty:
			want = []int{1, 2, 0}
		case outcomes[i].Answers[1] == empty:
			want = []int{1, 0, 2}
		}
		if outcomes[i].First[0] == 1 { // the first pop began ahead of the push
			t.Errorf("%v is the first run of %v", outcomes[i].First, outcomes[i].Answers)
		}
		if !slices.Equal(order, want) {
			t.Errorf("%v: %v, not %v", outcomes[i], order, want)
		}
	}
	if len(outcomes) != 3 {
		t.Errorf("%v", outcomes)
	}
}

func mustExplain(t *testing.T, c api.Config, p api.Programs, switches int) [][]int {
	t.Helper()
	orders, e := explore.Explained(c, p, switches)
	if e != api.OK {
		t.Errorf("%v with %d switches: %d", p, switches, e)
	}
	return orders
}

// P15.4: a call that answered Full stands in the order; one that was left out doesn't.
func TestExplainedOfFull(t *testing.T) {
	c := configOf(2, 2, 3, 1, 0, 2, 1) // but for the queue's, one slot
	p := api.Programs{{push(1), call(99, 0), push(2)}, {call(api.OpRegister, 0), push(3)}}
	wantExplained(t, "full", c, p, 0, []int{0, 1, 2}, []int{0, 1, 2})
	outcomes, _ := all(t, c, p, 0)
	for _, o := range outcomes {
		if !slices.Contains(o.Answers, full) || !slices.Contains(o.Answers, none) {
			t.Errorf("%v", o)
		}
	}
}

// P15.4: eight calls of objects can be searched.
func TestExplainedOfEight(t *testing.T) {
	p := api.Programs{{push(1), push(2), push(3), push(4)}, pops(4)}
	c := configOf(2, 2, 3, 1, 0, 9, 1)
	wantExplained(t, "eight", c, p, 0, []int{0, 1, 2, 3, 4, 5, 6, 7}, []int{0, 1, 2, 3, 4, 5, 6, 7})
}
