package deque_test

import "testing"

// P21.3: a take of the empty deque puts bottom down, sees top, and puts bottom back; its point is the load
// of top.
func TestTakeOfEmpty(t *testing.T) {
	for room := 1; room <= 3; room++ {
		for top := range 2*room + 1 {
			y := filled(t, dequeOf(2, room), top)
			y.tells(t, take(), empty, 2, load(0, 1, top), store(0, 1, top-1), load(0, 0, top), store(0, 1, top))
			y.wantLeft(t)
			y.calls(t, done, push(5))
			y.calls(t, value(5), take())
		}
	}
}

// P21.3: a take of the only value swaps top; its point is the store of bottom.
func TestTakeOfOne(t *testing.T) {
	for room := 1; room <= 3; room++ {
		for top := range 2*room + 1 {
			d := dequeOf(2, room)
			y := filled(t, d, top, 5)
			y.tells(t, take(), value(5), 1,
				load(0, 1, top+1), store(0, 1, top), load(0, 0, top), load(0, cellAt(d, top), 5), rise(0, top), store(0, 1, top+1))
			y.wantLeft(t)
		}
	}
}

// P21.3: a take of several values swaps nothing; its point is the store of bottom, two moves ahead of its end.
func TestTakeOfSeveral(t *testing.T) {
	for room := 2; room <= 4; room++ {
		for top := range 2*room + 1 {
			for count := 2; count <= room; count++ {
				d := dequeOf(2, room)
				values := []int{11, 12, 13, 14}[:count]
				y := filled(t, d, top, values...)
				last := top + count - 1
				y.tells(t, take(), value(values[count-1]), 1,
					load(0, 1, last+1), store(0, 1, last), load(0, 0, top), load(0, cellAt(d, last), values[count-1]))
				y.wantLeft(t, values[:count-1]...)
			}
		}
	}
}

// P21.3: the last value is stolen between the load of the cell and the swap: it fails, and is the point.
func TestTakeWhoseSwapFails(t *testing.T) {
	for _, top := range []int{0, 1, 2, 5} {
		d := dequeOf(2, 2)
		y := filled(t, d, top, 5)
		y.make(t, steal(1))
		y.goes(t, load(1, 0, top), load(1, 1, top+1), load(1, cellAt(d, top), 5))
		y.make(t, take())
		y.goes(t, load(0, 1, top+1), store(0, 1, top))
		lowered := y.now()
		y.goes(t, load(0, 0, top), load(0, cellAt(d, top), 5), rise(1, top))
		y.ended(t, 1, value(5), lowered)
		y.pending(t, 0, lowered)
		y.wantHolds(t)
		y.goes(t, fails(0, top, top+1))
		failed := y.now()
		y.pending(t, 0, failed)
		y.wantHolds(t)
		y.goes(t, store(0, 1, top+1))
		y.ended(t, 0, empty, failed)
		y.wantHolds(t)
		y.wantLeft(t)
	}
}

// P21.3: with two values and a steal of the first one under way, the last one is the owner's by its swap; the
// steal is behind the store of bottom.
func TestTakeThatBecomesTheOnlyOne(t *testing.T) {
	y := filled(t, dequeOf(2, 2), 0, 5, 6)
	y.make(t, steal(1))
	y.goes(t, load(1, 0, 0), load(1, 1, 2), load(1, 2, 5))
	y.make(t, take())
	y.goes(t, load(0, 1, 2), store(0, 1, 1))
	lowered := y.now()
	y.goes(t, rise(1, 0))
	y.ended(t, 1, value(5), y.now())
	y.goes(t, load(0, 0, 1), load(0, 3, 6), rise(0, 1))
	y.pending(t, 0, lowered)
	y.goes(t, store(0, 1, 2))
	y.ended(t, 0, value(6), lowered)
	y.wantHolds(t)
	y.wantLeft(t)
}

// P21.3: a take that saw several values at its load of top takes without a swap, even if they have been
// stolen meanwhile.
func TestTakeThatSawSeveral(t *testing.T) {
	y := filled(t, dequeOf(2, 3), 0, 5, 6)
	y.make(t, take())
	y.goes(t, load(0, 1, 2), store(0, 1, 1))
	lowered := y.now()
	y.goes(t, load(0, 0, 0))
	y.calls(t, value(5), steal(1))
	y.calls(t, empty, steal(1))
	y.goes(t, load(0, 3, 6))
	y.ended(t, 0, value(6), lowered)
	y.wantHolds(t)
	y.wantLeft(t)
}

// P21.3: all values were stolen between the load of bottom and its store: bottom stands one below top till
// the take puts it back.
func TestTakeOfWhatIsGone(t *testing.T) {
	y := filled(t, dequeOf(2, 3), 0, 5, 6)
	y.make(t, take())
	y.goes(t, load(0, 1, 2))
	y.pending(t, 0, -1)
	y.calls(t, value(5), steal(1))
	y.calls(t, value(6), steal(1))
	y.goes(t, store(0, 1, 1))
	y.pending(t, 0, y.now())
	y.wantLeft(t)
	y.wantHolds(t)
	y.goes(t, load(0, 0, 2))
	seen := y.now()
	y.pending(t, 0, seen)
	y.wantLeft(t)
	y.goes(t, store(0, 1, 2))
	y.ended(t, 0, empty, seen)
	y.wantHolds(t)
}
