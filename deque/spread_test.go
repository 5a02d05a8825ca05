package deque_test

import (
	"slices"
	"testing"

	"reclaim/api"
	"reclaim/deque"
)

func wantSpread(t *testing.T, want []int, calls ...api.Call) {
	t.Helper()
	if got, e := deque.Spread(small(), runOf(small(), calls...)); !slices.Equal(got, want) || e != api.OK {
		t.Errorf("Spread(%+v) = %v, %d, not %v", calls, got, e, want)
	}
}

// P21.7: thread by thread, how many calls have answered a value, of whichever op.
func TestSpread(t *testing.T) {
	by := func(thread int, c api.Call) api.Call { return with(c, func(c *api.Call) { c.Thread = thread }) }
	wantSpread(t, []int{0, 0, 0})
	wantSpread(t, []int{0, 0, 0}, pushed(1, 5, done), pushed(2, 5, full), took(3, empty), stole(4, empty))
	wantSpread(t, []int{1, 0, 0}, took(1, value(5)))
	wantSpread(t, []int{0, 1, 0}, stole(1, value(5)))
	wantSpread(t, []int{2, 1, 3}, took(1, value(5)), by(0, stole(2, value(6))), stole(3, value(0)),
		by(2, stole(4, value(1))), by(2, stole(5, value(1))), by(2, stole(6, empty)), by(2, stole(7, value(2))))
	// A push that answers a value is none, but it is counted: whether the answers are explained is not asked.
	wantSpread(t, []int{1, 0, 0}, pushed(1, 5, value(5)))
	wantSpread(t, []int{2, 0, 0}, pushed(1, 5, value(5)), took(2, value(7)))
	for kind := api.AnswerKind(-1); kind < 9; kind++ {
		count := 0
		if kind == api.AnswerValue {
			count = 1
		}
		wantSpread(t, []int{0, count, 0}, stole(1, api.Answer{Kind: kind, Value: 3}))
	}
}

// P21.7: points out of their calls, and calls without a point, count as well; so does an answer that stands
// beside no end, which no machine tells.
func TestSpreadDoesNotAskForPoints(t *testing.T) {
	wantSpread(t, []int{1, 0, 0}, with(took(1, value(5)), func(c *api.Call) { c.End = -1 }))
	wantSpread(t, []int{1, 0, 0}, pointless(took(1, value(5))))
	wantSpread(t, []int{0, 2, 0}, pointless(stole(1, value(5))), pointless(stole(1, value(5))))
	wantSpread(t, []int{0, 1, 0}, with(stole(1, value(5)), func(c *api.Call) { c.Begin, c.End = 50, 3 }))
	wantSpread(t, []int{1, 1, 0}, long(took(1, value(5))), long(stole(1, value(5))))
	wantSpread(t, []int{0, 0, 0}, onItsWay(took(1, value(5))), pointless(onItsWay(stole(1, value(5)))))
}

// P21.7: there are as many numbers as threads.
func TestSpreadOfAllThreads(t *testing.T) {
	for threads := 1; threads <= api.MaxThreads; threads++ {
		d := dequeOf(threads, 3)
		y := yardOf(t, d)
		want := make([]int, threads)
		for i := range 40 {
			thread := i * i % threads
			y.calls(t, done, push(i))
			y.calls(t, value(i), steal(thread))
			want[thread]++
		}
		y.calls(t, done, push(1), push(2))
		y.calls(t, value(2), take())
		want[0]++
		if got, e := deque.Spread(d, y.m.Run()); !slices.Equal(got, want) || e != api.OK {
			t.Errorf("Spread = %v, %d, not %v", got, e, want)
		}
	}
}
