package deque_test

import (
	"math"
	"testing"

	"reclaim/api"
)

// P21.2: each push has the four accesses in their order, round the ring's end too; its point is the last one.
func TestPush(t *testing.T) {
	for room := 1; room <= 5; room++ {
		for top := range 2*room + 2 {
			d := dequeOf(2, room)
			y := filled(t, d, top)
			var values []int
			for i := range room {
				bottom := top + i
				y.tells(t, push(100+i), done, 3,
					load(0, 1, bottom), load(0, 0, top), store(0, cellAt(d, bottom), 100+i), store(0, 1, bottom+1))
				values = append(values, 100+i)
				y.wantLeft(t, values...)
			}
		}
	}
}

// P21.2: a push into a full deque sees it at its second access, and changes nothing.
func TestPushIntoFull(t *testing.T) {
	for room := 1; room <= 4; room++ {
		for top := range 2*room + 1 {
			y := filled(t, dequeOf(2, room), top, []int{1, 2, 3, 4}[:room]...)
			words := y.m.Run().Words
			y.tells(t, push(9), full, 1, load(0, 1, top+room), load(0, 0, top))
			if got := y.m.Run(); !sameRun(api.Run{Words: got.Words}, api.Run{Words: words}) {
				t.Errorf("the words are %v, not %v", got.Words, words)
			}
			// With one stolen, or taken, there is room again.
			y.calls(t, value(1), steal(1))
			y.calls(t, done, push(8))
			y.calls(t, full, push(9))
			y.calls(t, value(8), take())
			y.calls(t, done, push(7))
		}
	}
}

// P21.2: what counts is top as it is at the second access.
func TestPushSeesTopLate(t *testing.T) {
	y := filled(t, dequeOf(2, 2), 0, 5, 6)
	y.make(t, push(7))
	y.goes(t, load(0, 1, 2))
	y.calls(t, value(5), steal(1))
	y.goes(t, load(0, 0, 1), store(0, 2, 7), store(0, 1, 3))
	y.ended(t, 0, done, y.now())
	y.wantLeft(t, 6, 7)

	// A steal that comes a move later comes too late for the push.
	y = filled(t, dequeOf(2, 2), 0, 5, 6)
	y.make(t, steal(1))
	y.steps(t, 1, 3)
	y.make(t, push(7))
	y.goes(t, load(0, 1, 2), load(0, 0, 0))
	y.ended(t, 0, full, y.now())
	y.goes(t, rise(1, 0))
	y.ended(t, 1, value(5), y.now())
	y.wantHolds(t)
}

// A value is seen by others only from the store of bottom on; and a push has no point ahead of it.
func TestPushIsSeenAtItsPoint(t *testing.T) {
	y := yardOf(t, dequeOf(2, 3))
	y.make(t, push(5))
	for range 3 {
		y.pending(t, 0, -1)
		y.calls(t, empty, steal(1))
		y.steps(t, 0, 1)
	}
	y.calls(t, empty, steal(1))
	y.pending(t, 0, -1)
	y.steps(t, 0, 1)
	y.ended(t, 0, done, y.now())
	y.calls(t, value(5), steal(1))
}

// P4, P21.2: a value may be any int.
func TestPushAnyValue(t *testing.T) {
	y := yardOf(t, dequeOf(1, 2))
	for _, v := range []int{0, 1, -1, math.MaxInt, math.MinInt, math.MaxInt - 1, 1 << 32} {
		y.calls(t, done, push(v), push(v))
		y.wantLeft(t, v, v)
		y.calls(t, value(v), take(), steal(0))
	}
	y.wantHolds(t)
}
