package deque_test

import (
	"slices"
	"testing"

	"reclaim/api"
	"reclaim/deque"
)

// The chapter's examples 1 and 2, access by access.
func TestExamplesOneAndTwo(t *testing.T) {
	y := yardOf(t, example())
	y.tells(t, push(5), done, 3, load(0, 1, 0), load(0, 0, 0), store(0, 2, 5), store(0, 1, 1))
	y.tells(t, push(6), done, 3, load(0, 1, 1), load(0, 0, 0), store(0, 3, 6), store(0, 1, 2))
	y.tells(t, push(7), full, 1, load(0, 1, 2), load(0, 0, 0))
	y.wantLeft(t, 5, 6)
	y.tells(t, steal(1), value(5), 3, load(1, 0, 0), load(1, 1, 2), load(1, 2, 5), rise(1, 0))
	y.wantLeft(t, 6)
	y.tells(t, take(), value(6), 1,
		load(0, 1, 2), store(0, 1, 1), load(0, 0, 1), load(0, 3, 6), rise(0, 1), store(0, 1, 2))
	y.wantLeft(t)
	y.wantHolds(t)
	if got, e := deque.Spread(y.d, y.m.Run()); !slices.Equal(got, []int{1, 1}) || e != api.OK {
		t.Errorf("Spread = %v, %d", got, e)
	}
}

// The chapter's example 3: both at the last value.
func TestExampleThree(t *testing.T) {
	y := yardOf(t, example())
	y.calls(t, done, push(5))
	y.make(t, steal(1))
	y.goes(t, load(1, 0, 0), load(1, 1, 1), load(1, 2, 5))
	y.make(t, take())
	y.goes(t, load(0, 1, 1), store(0, 1, 0))
	lowered := y.now()
	y.pending(t, 0, lowered)
	y.goes(t, rise(1, 0))
	y.ended(t, 1, value(5), lowered)
	y.wantHolds(t)
	y.goes(t, load(0, 0, 1))
	seen := y.now()
	y.pending(t, 0, seen)
	y.goes(t, store(0, 1, 1))
	y.ended(t, 0, empty, seen)
	y.wantHolds(t)
	y.wantLeft(t)
}
