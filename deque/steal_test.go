package deque_test

import (
	"testing"

	"reclaim/api"
)

// P21.4: a steal of the empty deque ends at its second access, which is its point.
func TestStealOfEmpty(t *testing.T) {
	for thread := range 3 {
		for top := range 5 {
			y := filled(t, dequeOf(3, 2), top)
			y.tells(t, steal(thread), empty, 1, load(thread, 0, top), load(thread, 1, top))
		}
	}
}

// P21.4: a steal of the first of several values, and of the only one, by any thread, round the ring's end too.
func TestSteal(t *testing.T) {
	for thread := range 3 {
		for room := 1; room <= 3; room++ {
			for top := range 2*room + 1 {
				d := dequeOf(3, room)
				values := []int{5, 6, 7}[:room]
				y := filled(t, d, top, values...)
				for i, v := range values {
					y.tells(t, steal(thread), value(v), 3,
						load(thread, 0, top+i), load(thread, 1, top+room), load(thread, cellAt(d, top+i), v), rise(thread, top+i))
					y.wantLeft(t, values[i+1:]...)
				}
			}
		}
	}
}

// P21.4: bottom one below top is as good as none.
func TestStealBelowTop(t *testing.T) {
	y := yardOf(t, dequeOf(2, 1))
	y.make(t, take())
	y.steps(t, 0, 2)
	y.tells(t, steal(1), empty, 1, load(1, 0, 0), load(1, 1, -1))
	y.wantHolds(t)
	y.goes(t, load(0, 0, 0))
	y.tells(t, steal(1), empty, 1, load(1, 0, 0), load(1, 1, -1))
	y.wantHolds(t)
}

// P21.4: a steal whose swap fails goes round: to a value, or to none.
func TestStealWhoseSwapFails(t *testing.T) {
	y := filled(t, dequeOf(3, 2), 1, 5, 6)
	for thread := 1; thread <= 2; thread++ {
		y.make(t, steal(thread))
		y.goes(t, load(thread, 0, 1), load(thread, 1, 3), load(thread, 3, 5))
	}
	y.goes(t, rise(1, 1))
	y.ended(t, 1, value(5), y.now())
	y.goes(t, fails(2, 1, 2))
	y.pending(t, 2, -1)
	y.goes(t, load(2, 0, 2), load(2, 1, 3), load(2, 2, 6))
	y.calls(t, value(6), steal(1))
	y.goes(t, fails(2, 2, 3), load(2, 0, 3), load(2, 1, 3))
	y.ended(t, 2, empty, y.now())
	y.wantHolds(t)
	y.wantLeft(t)
}

// P21.4: the value that a failing swap had loaded may be another one's: one pushed round the ring into the cell.
func TestStealReadsACellThatIsUsedAgain(t *testing.T) {
	y := filled(t, dequeOf(3, 1), 0, 5)
	y.make(t, steal(1))
	y.goes(t, load(1, 0, 0), load(1, 1, 1))
	y.calls(t, value(5), steal(2))
	y.calls(t, done, push(6))
	y.goes(t, load(1, 2, 6), fails(1, 0, 1), load(1, 0, 1), load(1, 1, 2), load(1, 2, 6), rise(1, 1))
	y.ended(t, 1, value(6), y.now())
	y.wantHolds(t)
}

// stealAgainst is a machine in which thread 1 is about to swap top, and the owner's take has made so many of
// its accesses; it tells at which move the take has put bottom down (-1: not yet).
func stealAgainst(t *testing.T, accesses int, values ...int) (*yard, int) {
	t.Helper()
	y := filled(t, dequeOf(3, 4), 0, values...)
	y.make(t, steal(1))
	y.steps(t, 1, 3)
	y.make(t, take())
	lowered := -1
	for i := range accesses {
		y.steps(t, 0, 1)
		if i == 1 {
			lowered = y.now()
		}
	}
	return y, lowered
}

// P21.4: the point of a steal of the only value is that of the take, from the take's second access on; ahead
// of that it is its own move.
func TestStealOfTheOnlyValue(t *testing.T) {
	for accesses := range 5 {
		y, lowered := stealAgainst(t, accesses, 5)
		y.goes(t, rise(1, 0))
		want := lowered
		if accesses < 2 {
			want = y.now()
		}
		y.ended(t, 1, value(5), want)
		y.pending(t, 0, lowered)
		y.wantHolds(t)
		// Who looks now finds nothing, as from the point on.
		y.calls(t, empty, steal(2))
		y.wantHolds(t)
		y.finish(t, 0)
		if got := y.last(0); got.Answer != empty || got.Point <= lowered {
			t.Errorf("the take is %+v", got)
		}
		y.wantHolds(t)
		y.wantLeft(t)
	}
}

// P21.4: the point lies there because others can see nothing between the take's store and the steal's swap.
func TestStealThatOthersKnowOf(t *testing.T) {
	y, lowered := stealAgainst(t, 2, 5)
	y.calls(t, empty, steal(2))
	y.goes(t, rise(1, 0))
	y.ended(t, 1, value(5), lowered)
	y.wantHolds(t)
}

// P21.4: the point of a steal of another value than the take's is its own move, whatever the take has done.
func TestStealOfAnotherValue(t *testing.T) {
	for accesses := range 5 {
		y, _ := stealAgainst(t, accesses, 5, 6)
		y.goes(t, rise(1, 0))
		y.ended(t, 1, value(5), y.now())
		y.wantHolds(t)
		y.finish(t, 0)
		behind := 2
		if accesses < 2 {
			behind++ // the swap's move
		}
		if got := y.last(0); got.Answer != value(6) || got.Point != got.Begin+behind {
			t.Errorf("the take is %+v", got)
		}
		y.wantHolds(t)
	}
}

// P21.4: behind the take's end a steal's point is its own move, also of a value with the number that an
// earlier take had put bottom down to.
func TestStealBehindATake(t *testing.T) {
	y := filled(t, dequeOf(2, 2), 0, 5, 6)
	y.calls(t, value(6), take())
	y.calls(t, done, push(7)) // with the number 1 again
	y.calls(t, value(5), steal(1))
	y.tells(t, steal(1), value(7), 3, load(1, 0, 1), load(1, 1, 2), load(1, 3, 7), rise(1, 1))

	y = yardOf(t, dequeOf(2, 2))
	y.calls(t, empty, take()) // it has put bottom down to -1
	y.calls(t, done, push(5))
	y.tells(t, steal(1), value(5), 3, load(1, 0, 0), load(1, 1, 1), load(1, 2, 5), rise(1, 0))

	y = filled(t, dequeOf(2, 2), 0, 5, 6)
	y.calls(t, value(6), take()) // down to 1, without a swap
	y.calls(t, value(5), take()) // down to 0, with one
	y.calls(t, done, push(8))    // the number 1
	y.make(t, take())            // a take on its way that has not yet put bottom down
	y.steps(t, 0, 1)
	y.tells(t, steal(1), value(8), 3, load(1, 0, 1), load(1, 1, 2), load(1, 3, 8), rise(1, 1))
	y.finish(t, 0)
	y.wantHolds(t)
}

// P21.4: a steal is not refused, of the owner neither.
func TestStealOfTheOwner(t *testing.T) {
	y := filled(t, dequeOf(1, 2), 0, 5, 6)
	y.tells(t, steal(0), value(5), 3, load(0, 0, 0), load(0, 1, 2), load(0, 2, 5), rise(0, 0))
	y.tells(t, steal(0), value(6), 3, load(0, 0, 1), load(0, 1, 2), load(0, 3, 6), rise(0, 1))
	y.tells(t, steal(0), empty, 1, load(0, 0, 2), load(0, 1, 2))
	y.wantHolds(t)
}

// A call's Arg and Data that it doesn't use are not looked at, but told.
func TestWhatIsNotUsed(t *testing.T) {
	y := filled(t, dequeOf(2, 2), 0, 5, 6)
	y.tells(t, api.Move{Thread: 1, Op: api.OpSteal, Arg: 8, Data: 9}, value(5), 3,
		load(1, 0, 0), load(1, 1, 2), load(1, 2, 5), rise(1, 0))
	y.tells(t, api.Move{Op: api.OpDequeTake, Arg: -8, Data: -9}, value(6), 1,
		load(0, 1, 2), store(0, 1, 1), load(0, 0, 1), load(0, 3, 6), rise(0, 1), store(0, 1, 2))
	y.tells(t, api.Move{Op: api.OpDequePush, Arg: 7, Data: 9}, done, 3,
		load(0, 1, 2), load(0, 0, 2), store(0, 2, 7), store(0, 1, 3))
}
