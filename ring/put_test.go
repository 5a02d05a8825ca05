package ring_test

import (
	"testing"

	"reclaim/api"
)

// Rings of several sizes, each begun at several tickets, so that the ring's end is met.
func eachRound(do func(c api.Ring, first int)) {
	for _, cells := range []int{2, 3, 5} {
		for first := range 2*cells + 2 {
			do(ringOf(3, cells), first)
		}
	}
}

// OpPut: into each cell, round the ring's end too, its point the swap.
func TestPut(t *testing.T) {
	eachRound(func(c api.Ring, first int) {
		w := filled(t, c, first)
		for i := range c.Cells {
			thread := i % 3
			w.tells(t, put(thread, 10+i), done, 2, through(c, thread, first+i, 10+i)...)
		}
		for i := range c.Cells {
			w.tells(t, pick(1), value(10+i), 2, taken(c, 1, first+i, 10+i)...)
		}
		w.wantHolds(t)
	})
}

// OpPut: a ring with as many values as cells is full at the put's second access, its point.
func TestPutIntoFull(t *testing.T) {
	eachRound(func(c api.Ring, first int) {
		w := filled(t, c, first, make([]int, c.Cells)...)
		next := first + c.Cells
		for thread := range 3 {
			w.tells(t, put(thread, 5), full, 1, load(thread, putsAt, next), load(thread, turnAt(c, next), first+1))
		}
		w.calls(t, value(0), pick(0))
		w.tells(t, put(2, 5), done, 2, through(c, 2, next, 5)...)
		w.tells(t, put(1, 6), full, 1, load(1, putsAt, next+1), load(1, turnAt(c, next+1), first+2))
		w.wantHolds(t)
	})
}

// OpPut: what is put may be any int, and is picked as it was.
func TestPutOfAnyInt(t *testing.T) {
	for _, v := range []int{0, -1, 1, -1 << 63, 1<<63 - 1, 1 << 40} {
		w := wheelOf(t, example())
		w.tells(t, put(1, v), done, 2, through(w.c, 1, 0, v)...)
		w.tells(t, pick(0), value(v), 2, taken(w.c, 0, 0, v)...)
	}
}

// duel is a machine in which threads 1 and 2 are about to swap for the same ticket.
func duel(t *testing.T, c api.Ring, first int, one, two api.Move, values ...int) *wheel {
	t.Helper()
	w := filled(t, c, first, values...)
	w.make(t, one)
	w.steps(t, 1, 2)
	w.make(t, two)
	w.steps(t, 2, 2)
	return w
}

// OpPut: one whose swap fails goes round, to the ticket behind.
func TestPutWhoseSwapFails(t *testing.T) {
	eachRound(func(c api.Ring, first int) {
		w := duel(t, c, first, put(1, 7), put(2, 8))
		w.goes(t, gets(2, putsAt, first))
		point := w.now()
		w.pending(t, 2, point)
		w.goes(t, fails(1, putsAt, first, first+1))
		w.pending(t, 1, -1)
		w.goes(t, through(c, 1, first+1, 7)...)
		w.ended(t, 1, done, w.now()-2)
		w.goes(t, store(2, valueAt(c, first), 8), store(2, turnAt(c, first), first+1))
		w.ended(t, 2, done, point)
		w.calls(t, value(8), pick(0))
		w.calls(t, value(7), pick(0))
		w.wantHolds(t)
	})
}

// OpPut: one whose swap fails several times, and then finds the ring full.
func TestPutWhoseSwapFailsTillFull(t *testing.T) {
	c := ringOf(3, 3)
	w := wheelOf(t, c)
	w.make(t, put(1, 7))
	for ticket := range 3 {
		w.goes(t, load(1, putsAt, ticket), load(1, turnAt(c, ticket), ticket))
		w.calls(t, done, put(2, 20+ticket))
		w.goes(t, fails(1, putsAt, ticket, ticket+1))
		w.pending(t, 1, -1)
	}
	w.goes(t, load(1, putsAt, 3), load(1, turnAt(c, 3), 1))
	w.ended(t, 1, full, w.now())
	w.wantHolds(t)
}

// OpPut: a turn above the ticket is no end: the put goes round, wherever the cell has come to meanwhile.
func TestPutWhoseTurnIsAbove(t *testing.T) {
	eachRound(func(c api.Ring, first int) {
		for rounds := range 3 {
			w := filled(t, c, first)
			w.make(t, put(1, 7))
			w.goes(t, load(1, putsAt, first))
			w.calls(t, done, put(2, 8))
			turn, next := first+1, first+1
			if rounds > 0 {
				w.calls(t, value(8), pick(2))
				turn = first + c.Cells
			}
			if rounds > 1 {
				for range c.Cells {
					w.calls(t, done, put(2, 9))
					w.calls(t, value(9), pick(2))
				}
				turn, next = first+2*c.Cells, first+1+c.Cells
			}
			w.goes(t, load(1, turnAt(c, first), turn))
			w.pending(t, 1, -1)
			w.goes(t, through(c, 1, next, 7)...)
			w.ended(t, 1, done, w.now()-2)
			w.wantHolds(t)
		}
	})
}

// OpPut: it is full also where the pick of the cell has its ticket and is not through, at each of its accesses.
func TestPutHeldUpByAPick(t *testing.T) {
	eachRound(func(c api.Ring, first int) {
		w := filled(t, c, first, make([]int, c.Cells)...)
		next := first + c.Cells
		w.make(t, pick(1))
		for i, a := range taken(c, 1, first, 0) {
			w.tells(t, put(2, 5), full, 1, load(2, putsAt, next), load(2, turnAt(c, next), first+1))
			w.goes(t, a)
			if i == 2 { // a pick behind it makes no room for the put
				w.calls(t, value(0), pick(2))
			}
		}
		w.tells(t, put(2, 5), done, 2, through(c, 2, next, 5)...)
		w.wantHolds(t)
	})
}

// OpPut: it is full also where the put of the cell, once round the ring, is not through.
func TestPutHeldUpByAPut(t *testing.T) {
	eachRound(func(c api.Ring, first int) {
		w := filled(t, c, first)
		w.make(t, put(1, 7))
		w.steps(t, 1, 3)
		for range c.Cells - 1 {
			w.calls(t, done, put(2, 8))
		}
		next := first + c.Cells
		for _, a := range through(c, 1, first, 7)[3:] {
			w.tells(t, put(2, 5), full, 1, load(2, putsAt, next), load(2, turnAt(c, next), first))
			w.goes(t, a)
		}
		w.tells(t, put(2, 5), full, 1, load(2, putsAt, next), load(2, turnAt(c, next), first+1))
		w.tells(t, pick(0), value(7), 2, taken(c, 0, first, 7)...)
		w.tells(t, put(2, 5), done, 2, through(c, 2, next, 5)...)
		w.wantHolds(t)
	})
}

// What a call doesn't use is not looked at, but told.
func TestWhatIsNotUsed(t *testing.T) {
	w := wheelOf(t, example())
	w.tells(t, api.Move{Thread: 1, Op: api.OpPut, Arg: 7, Data: 9}, done, 2, through(w.c, 1, 0, 7)...)
	w.tells(t, api.Move{Op: api.OpPick, Arg: -8, Data: -9}, value(7), 2, taken(w.c, 0, 0, 7)...)
	w.tells(t, api.Move{Op: api.OpPick, Arg: 8, Data: 9}, empty, 1, load(0, 1, 1), load(0, 4, 1))
}
