package mcas_test

import (
	"testing"

	"reclaim/api"
)

// P25.4, number known: the entries are put one by one; the way forth of a swap that succeeds.
func TestHelpKnown(t *testing.T) {
	w := rowOf(t, three())
	w.tells(t, multi(0, 6), yes, 16,
		store(0, numberOfZero, 6), load(0, statusOfZero, 0),
		store(0, recordOfZero, recorded(1, 0, 0)), load(0, 0, 20), swap(0, 0, 20, marked(0, 1)), load(0, recordOfZero, recorded(1, 0, 0)),
		load(0, numberOfZero, 6), load(0, statusOfZero, 0), swap(0, 0, marked(0, 1), held(0)),
		store(0, recordOfZero, recorded(2, 0, 1)), load(0, 1, 24), swap(0, 1, 24, marked(0, 2)), load(0, recordOfZero, recorded(2, 0, 1)),
		load(0, numberOfZero, 6), load(0, statusOfZero, 0), swap(0, 1, marked(0, 2), held(0)),
		swap(0, statusOfZero, 0, 1), load(0, statusOfZero, 1), swap(0, 0, held(0), 4), swap(0, 1, held(0), 4))
	w.wantCells(t, 1, 1, 7)
	w.wantHolds(t)
}

// P25.4: the way back of a swap that has failed: the cells that it holds have their Old again.
func TestWayBack(t *testing.T) {
	w := rowOf(t, three())
	w.make(t, multi(0, 7)) // cell 2 isn't 1
	w.steps(t, 0, 9)
	w.goes(t, store(0, recordOfZero, recorded(2, 0, 1)), load(0, 2, 28))
	seen := w.now()
	w.goes(t, swap(0, statusOfZero, 0, 2), load(0, statusOfZero, 2))
	w.wantCells(t, 5, 6, 7)
	w.goes(t, swap(0, 1, held(0), 24), fails(0, 2, held(0), 4, 28))
	w.ended(t, 0, no, seen)
	w.wantCells(t, 5, 6, 7)
	w.wantHolds(t)
}

// met is a machine in which descriptor 0 holds cell 0, with some more steps of its thread; thread 1 then reads it.
func met(t *testing.T, more int) *row {
	t.Helper()
	w := rowOf(t, three())
	w.make(t, multi(0, 0))
	w.steps(t, 0, 9+more)
	w.make(t, read(1, 0))
	w.goes(t, load(1, 0, held(0)), load(1, numberOfZero, 0))
	return w
}

// P25.4, number not known: an entry that is held already is not put again; all the rest is done by the helper.
func TestHelpMet(t *testing.T) {
	w := met(t, 0)
	w.goes(t, load(1, statusOfZero, 0), store(1, recordOfOne, recorded(1, 0, 0)), load(1, 0, held(0)),
		store(1, recordOfOne, recorded(2, 0, 1)), load(1, 2, 28), swap(1, 2, 28, marked(1, 2)), load(1, recordOfOne, recorded(2, 0, 1)),
		load(1, numberOfZero, 0), load(1, statusOfZero, 0), swap(1, 2, marked(1, 2), held(0)), swap(1, statusOfZero, 0, 1))
	point := w.now()
	w.goes(t, load(1, statusOfZero, 1), swap(1, 0, held(0), 32), swap(1, 2, held(0), 36))
	w.pending(t, 0, 1)
	w.goes(t, load(1, 0, 32))
	w.ended(t, 1, value(8), w.now())
	// Thread 0's point is the helper's move; so it is told at the end alone.
	w.goes(t, store(0, recordOfZero, recorded(2, 0, 1)), load(0, 2, 36), fails(0, statusOfZero, 0, 2, 1), load(0, statusOfZero, 1),
		fails(0, 0, held(0), 32, 32))
	w.pending(t, 0)
	w.goes(t, fails(0, 2, held(0), 36, 36))
	w.ended(t, 0, yes, point)
	w.wantHolds(t)
}

// P25.4: the status is 1 when it is loaded first: no entry is put.
func TestHelpOfOneThatHasSucceeded(t *testing.T) {
	w := met(t, 8) // decided, and still there
	w.goes(t, load(1, statusOfZero, 1), swap(1, 0, held(0), 32), swap(1, 2, held(0), 36), load(1, 0, 32))
	w.ended(t, 1, value(8), w.now())
	point := w.now() - 7
	w.goes(t, load(0, statusOfZero, 1), fails(0, 0, held(0), 32, 32), fails(0, 2, held(0), 36, 36))
	w.ended(t, 0, yes, point)
	w.wantHolds(t)
}

// P25.4: the status is 2 when it is loaded first: no entry is put, the cells have their Old again.
func TestHelpOfOneThatHasFailed(t *testing.T) {
	w := rowOf(t, three())
	w.make(t, multi(0, 7))
	w.steps(t, 0, 11)
	seen := w.now()
	w.make(t, read(1, 1))
	w.goes(t, load(1, 1, held(0)), load(1, numberOfZero, 7))
	w.goes(t, swap(0, statusOfZero, 0, 2))
	w.goes(t, load(1, statusOfZero, 2), swap(1, 1, held(0), 24), fails(1, 2, held(0), 4, 28), load(1, 1, 24))
	w.ended(t, 1, value(6), w.now())
	w.finish(t, 0)
	w.ended(t, 0, no, seen)
	w.wantHolds(t)
}

// P25.4: another descriptor is in the way: that one is helped first, and the entry put anew.
func TestHelpOfAnotherOnTheWay(t *testing.T) {
	w := rowOf(t, three())
	w.make(t, multi(0, 6)) // cells 0 and 1
	w.steps(t, 0, 16)      // it holds both
	w.make(t, multi(1, 7)) // cells 1 and 2
	w.goes(t, store(1, numberOfOne, 7), load(1, statusOfOne, 0), store(1, recordOfOne, recorded(1, 3, 0)), load(1, 1, held(0)),
		load(1, numberOfZero, 6), load(1, statusOfZero, 0),
		store(1, recordOfOne, recorded(2, 0, 0)), load(1, 0, held(0)), store(1, recordOfOne, recorded(3, 0, 1)), load(1, 1, held(0)),
		swap(1, statusOfZero, 0, 1))
	point := w.now()
	w.goes(t, load(1, statusOfZero, 1), swap(1, 0, held(0), 4), swap(1, 1, held(0), 4),
		store(1, recordOfOne, recorded(4, 3, 0)), load(1, 1, 4))
	seen := w.now()
	w.goes(t, swap(1, statusOfOne, 0, 2), load(1, statusOfOne, 2), fails(1, 1, held(3), 24, 4), fails(1, 2, held(3), 4, 28))
	w.ended(t, 1, no, seen)
	w.finish(t, 0)
	w.ended(t, 0, yes, point)
	w.wantHolds(t)
}

// P25.4: of several that are in each other's way each is helped by way of the one before.
func TestHelpInALine(t *testing.T) {
	c := three()
	c.Swaps[7] = swapOf([3]int{1, 6, 2}, [3]int{2, 7, 2})
	w := rowOf(t, c)
	w.make(t, multi(2, 1)) // cell 2
	w.steps(t, 2, 9)
	w.make(t, multi(1, 7)) // cells 1 and 2
	w.steps(t, 1, 9)
	w.make(t, multi(0, 6)) // cells 0 and 1
	w.steps(t, 0, 9)
	w.goes(t, store(0, recordOfZero, recorded(2, 0, 1)), load(0, 1, held(3)),
		load(0, numberOfOne, 7), load(0, statusOfOne, 0), store(0, recordOfZero, recorded(3, 3, 0)), load(0, 1, held(3)),
		store(0, recordOfZero, recorded(4, 3, 1)), load(0, 2, held(6)),
		load(0, numberOfTwo, 1), load(0, statusOfTwo, 0), store(0, recordOfZero, recorded(5, 6, 0)), load(0, 2, held(6)), swap(0, statusOfTwo, 0, 1))
	two := w.now()
	w.goes(t, load(0, statusOfTwo, 1), swap(0, 2, held(6), 12), store(0, recordOfZero, recorded(6, 3, 1)), load(0, 2, 12))
	one := w.now()
	w.goes(t, swap(0, statusOfOne, 0, 2), load(0, statusOfOne, 2), swap(0, 1, held(3), 24), fails(0, 2, held(3), 28, 12),
		store(0, recordOfZero, recorded(7, 0, 1)), load(0, 1, 24), swap(0, 1, 24, marked(0, 7)), load(0, recordOfZero, recorded(7, 0, 1)),
		load(0, numberOfZero, 6), load(0, statusOfZero, 0), swap(0, 1, marked(0, 7), held(0)), swap(0, statusOfZero, 0, 1))
	zero := w.now()
	w.wantHolds(t)
	w.finish(t, 2)
	w.ended(t, 2, yes, two)
	w.finish(t, 1)
	w.ended(t, 1, no, one)
	w.finish(t, 0)
	w.ended(t, 0, yes, zero)
	w.wantCells(t, 1, 1, 3)
	w.wantHolds(t)
}

// P25.4: a swap of the status fails, since somebody else has decided; the outcome is that one's, whichever it is.
func TestSomebodyElseHasDecided(t *testing.T) {
	// Thread 0 is about to tell that its swap has failed, and somebody else has it succeed, since cell 2 is changed.
	w := rowOf(t, changed(three(), func(c *api.Multi) { c.Cells[2] = 3 }))
	w.make(t, multi(0, 0))
	w.steps(t, 0, 9)
	w.goes(t, store(0, recordOfZero, recorded(2, 0, 1)), load(0, 2, 12))
	w.calls(t, yes, multi(1, 2)) // to 7
	w.calls(t, value(8), read(2, 0))
	point := w.now() - 4
	w.goes(t, fails(0, statusOfZero, 0, 2, 1), load(0, statusOfZero, 1), fails(0, 0, held(0), 32, 32), fails(0, 2, held(0), 36, 36))
	w.ended(t, 0, yes, point)
	w.wantCells(t, 8, 6, 9)
	w.wantHolds(t)
}

// P25.4: likewise, where the owner would have it succeed, and a helper has seen long ahead that it hasn't.
func TestSomebodyElseHasSeen(t *testing.T) {
	w := rowOf(t, changed(three(), func(c *api.Multi) { c.Cells[2] = 3 }))
	w.make(t, multi(0, 0))
	w.steps(t, 0, 9)
	w.make(t, read(1, 0))
	w.goes(t, load(1, 0, held(0)), load(1, numberOfZero, 0), load(1, statusOfZero, 0), store(1, recordOfOne, recorded(1, 0, 0)), load(1, 0, held(0)),
		store(1, recordOfOne, recorded(2, 0, 1)), load(1, 2, 12))
	seen := w.now()
	w.calls(t, yes, multi(2, 2)) // to 7
	w.steps(t, 0, 7)             // it holds both cells
	w.goes(t, swap(1, statusOfZero, 0, 2))
	w.goes(t, fails(0, statusOfZero, 0, 1, 2), load(0, statusOfZero, 2), swap(0, 0, held(0), 20), swap(0, 2, held(0), 28))
	w.ended(t, 0, no, seen)
	w.goes(t, load(1, statusOfZero, 2), fails(1, 0, held(0), 20, 20), fails(1, 2, held(0), 28, 28), load(1, 0, 20))
	w.ended(t, 1, value(5), w.now())
	w.wantHolds(t)
}

// P25.4: two would have it fail: the move is that which was seen by the one whose swap succeeds.
func TestTwoHaveSeen(t *testing.T) {
	for _, first := range []int{0, 1} {
		w := rowOf(t, changed(three(), func(c *api.Multi) { c.Cells[2] = 3 }))
		w.make(t, multi(0, 0))
		w.steps(t, 0, 9)
		w.make(t, read(1, 0))
		w.steps(t, 1, 6)
		w.goes(t, load(1, 2, 12))
		seen := []int{0, w.now()}
		w.goes(t, store(0, recordOfZero, recorded(2, 0, 1)), load(0, 2, 12))
		seen[0] = w.now()
		w.goes(t, swap(first, statusOfZero, 0, 2), fails(1-first, statusOfZero, 0, 2, 2))
		w.finish(t, 1)
		w.finish(t, 0)
		w.ended(t, 0, no, seen[first])
		w.wantHolds(t)
	}
}

// P25.5: a swap that has ended leaves nothing behind that another one meets: each call has its own descriptor.
func TestOneCallBehindAnother(t *testing.T) {
	w := rowOf(t, three())
	for i := range 3 {
		w.make(t, multi(0, 8))
		w.goes(t, store(0, numberOfZero+2*i, 8), load(0, statusOfZero+2*i, 0), store(0, recordOfZero, recorded(i+1, i, 0)), load(0, 0, 20),
			swap(0, 0, 20, marked(0, i+1)), load(0, recordOfZero, recorded(i+1, i, 0)), load(0, numberOfZero+2*i, 8), load(0, statusOfZero+2*i, 0),
			swap(0, 0, marked(0, i+1), held(i)), swap(0, statusOfZero+2*i, 0, 1))
		point := w.now()
		w.goes(t, load(0, statusOfZero+2*i, 1), swap(0, 0, held(i), 20))
		w.ended(t, 0, yes, point)
	}
	w.refuses(t, multi(0, 8))
	w.wantHolds(t)
}

// P25.6: a read of a value: one access, which is its point; the least value and the greatest.
func TestReadOfAValue(t *testing.T) {
	c := changed(three(), func(c *api.Multi) { c.Cells = []int{0, 1<<20 - 1, 77, 4} })
	w := rowOf(t, c)
	for i, v := range c.Cells {
		w.tells(t, api.Move{Thread: i % 3, Op: api.OpMultiRead, Arg: i, Data: -9}, value(v), 0, load(i%3, i, 4*v))
	}
	w.wantHolds(t)
}

// P25.6: a read that meets one thing behind the other: a mark, a descriptor, the next mark, the next descriptor.
func TestReadThatMeetsMuch(t *testing.T) {
	w := rowOf(t, three())
	w.make(t, multi(0, 8))
	w.steps(t, 0, 5)
	w.make(t, read(2, 0))
	w.goes(t, load(2, 0, marked(0, 1)), load(2, recordOfZero, recorded(1, 0, 0)), load(2, numberOfZero, 8), load(2, statusOfZero, 0),
		swap(2, 0, marked(0, 1), held(0)), load(2, 0, held(0)), load(2, numberOfZero, 8), load(2, statusOfZero, 0),
		store(2, recordOfTwo, recorded(1, 0, 0)), load(2, 0, held(0)), swap(2, statusOfZero, 0, 1), load(2, statusOfZero, 1))
	w.finish(t, 0)
	w.make(t, multi(1, 8))
	w.steps(t, 1, 5)
	w.goes(t, fails(2, 0, held(0), 20, marked(1, 1)), load(2, 0, marked(1, 1)))
	w.steps(t, 1, 4)
	w.goes(t, load(2, recordOfOne, recorded(1, 3, 0)), load(2, numberOfOne, 8), load(2, statusOfOne, 0), fails(2, 0, marked(1, 1), held(3), held(3)),
		load(2, 0, held(3)), load(2, numberOfOne, 8))
	w.finish(t, 1)
	w.pending(t, 2)
	w.goes(t, load(2, statusOfOne, 1), fails(2, 0, held(3), 20, 20), load(2, 0, 20))
	w.ended(t, 2, value(5), w.now())
	w.wantHolds(t)
}

// P25.10: a call that is left at each of its accesses, and helped by one thread, and then another.
func TestLeftAtEachAccess(t *testing.T) {
	for count := range 21 {
		for which, answers := range map[int][2]api.Answer{0: {yes, value(8)}, 7: {no, value(6)}, 6: {yes, value(1)}} {
			w := rowOf(t, three())
			w.make(t, multi(0, which))
			for range count {
				w.m.Move(step(0))
			}
			cell := w.c.Swaps[which][0].Cell
			w.make(t, read(1, cell))
			w.finish(t, 1)
			started := value(w.c.Cells[cell])
			if got := w.last(1).Answer; got != started && got != answers[1] {
				t.Fatalf("%d steps of swap %d: %+v", count, which, got)
			}
			w.make(t, multi(2, which))
			w.finish(t, 2)
			w.finish(t, 0)
			both := []api.Answer{w.last(0).Answer, w.last(2).Answer}
			if answers[0] == no && (both[0] != no || both[1] != no) || answers[0] == yes && (both[0] == both[1]) {
				t.Fatalf("%d steps of swap %d: %+v", count, which, both)
			}
			w.wantHolds(t)
		}
	}
}
