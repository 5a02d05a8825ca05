package ring_test

import (
	"testing"

	"reclaim/api"
)

// OpPick: out of each cell, round the ring's end too, its point the swap.
func TestPick(t *testing.T) {
	eachRound(func(c api.Ring, first int) {
		for count := 1; count <= c.Cells; count++ {
			values := []int{10, 11, 12, 13, 14}[:count]
			w := filled(t, c, first, values...)
			for i, v := range values {
				thread := i % 3
				w.tells(t, pick(thread), value(v), 2, taken(c, thread, first+i, v)...)
			}
			w.wantHolds(t)
		}
	})
}

// OpPick: an empty ring is empty at the pick's second access, its point.
func TestPickOfEmpty(t *testing.T) {
	eachRound(func(c api.Ring, first int) {
		w := filled(t, c, first)
		for thread := range 3 {
			w.tells(t, pick(thread), empty, 1, load(thread, picksAt, first), load(thread, turnAt(c, first), first))
		}
		w.calls(t, done, put(0, 5))
		w.tells(t, pick(1), value(5), 2, taken(c, 1, first, 5)...)
		w.wantHolds(t)
	})
}

// OpPick: one whose swap fails goes round, to the ticket behind, or to an empty ring.
func TestPickWhoseSwapFails(t *testing.T) {
	eachRound(func(c api.Ring, first int) {
		for _, values := range [][]int{{5, 6}, {5}} {
			w := duel(t, c, first, pick(1), pick(2), values...)
			w.goes(t, gets(2, picksAt, first))
			point := w.now()
			w.pending(t, 2, point)
			w.goes(t, fails(1, picksAt, first, first+1))
			w.pending(t, 1, -1)
			if len(values) == 2 {
				w.goes(t, taken(c, 1, first+1, 6)...)
				w.ended(t, 1, value(6), w.now()-2)
			} else {
				w.goes(t, load(1, picksAt, first+1), load(1, turnAt(c, first+1), first+1))
				w.ended(t, 1, empty, w.now())
			}
			w.goes(t, load(2, valueAt(c, first), 5), store(2, turnAt(c, first), first+c.Cells))
			w.ended(t, 2, value(5), point)
			w.wantHolds(t)
		}
	})
}

// OpPick: a turn above what it waits for is no end: the pick goes round, wherever the cell has come to meanwhile.
func TestPickWhoseTurnIsAbove(t *testing.T) {
	eachRound(func(c api.Ring, first int) {
		for rounds := range 3 {
			w := filled(t, c, first, []int{10, 11, 12, 13, 14}[:c.Cells]...)
			w.make(t, pick(1))
			w.goes(t, load(1, picksAt, first))
			w.calls(t, value(10), pick(2))
			turn, next, v := first+c.Cells, first+1, 11
			if rounds > 0 {
				w.calls(t, done, put(2, 20))
				turn++
			}
			if rounds > 1 {
				for range c.Cells {
					w.call(t, pick(2))
				}
				w.calls(t, done, put(2, 21))
				turn, next, v = first+2*c.Cells, first+1+c.Cells, 21
			}
			w.goes(t, load(1, turnAt(c, first), turn))
			w.pending(t, 1, -1)
			w.goes(t, taken(c, 1, next, v)...)
			w.ended(t, 1, value(v), w.now()-2)
			w.wantHolds(t)
		}
	})
}

// OpPick: it is empty as long as the put with its ticket is not through, whatever stands behind that.
func TestPickHeldUpByAPut(t *testing.T) {
	eachRound(func(c api.Ring, first int) {
		w := filled(t, c, first)
		w.make(t, put(1, 7))
		for i, a := range through(c, 1, first, 7) {
			w.tells(t, pick(2), empty, 1, load(2, picksAt, first), load(2, turnAt(c, first), first))
			w.goes(t, a)
			if i == 2 {
				w.calls(t, done, put(2, 8))
			}
		}
		w.tells(t, pick(2), value(7), 2, taken(c, 2, first, 7)...)
		w.tells(t, pick(2), value(8), 2, taken(c, 2, first+1, 8)...)
		w.wantHolds(t)
	})
}

// OpPick: it is empty also where the pick of the cell, once round the ring, is not through.
func TestPickHeldUpByAPick(t *testing.T) {
	eachRound(func(c api.Ring, first int) {
		w := filled(t, c, first, []int{10, 11, 12, 13, 14}[:c.Cells]...)
		w.make(t, pick(1))
		w.steps(t, 1, 3)
		for i := 1; i < c.Cells; i++ {
			w.calls(t, value(10+i), pick(2))
		}
		next := first + c.Cells
		w.tells(t, pick(2), empty, 1, load(2, picksAt, next), load(2, turnAt(c, next), first+1))
		w.goes(t, load(1, valueAt(c, first), 10))
		w.tells(t, pick(2), empty, 1, load(2, picksAt, next), load(2, turnAt(c, next), first+1))
		w.goes(t, store(1, turnAt(c, first), next))
		w.tells(t, pick(2), empty, 1, load(2, picksAt, next), load(2, turnAt(c, next), next))
		w.calls(t, done, put(0, 9))
		w.tells(t, pick(2), value(9), 2, taken(c, 2, next, 9)...)
		w.wantHolds(t)
	})
}
