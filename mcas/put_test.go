package mcas_test

import (
	"testing"

	"reclaim/api"
)

// P25.3: the swap fails, since the cell was changed or marked behind the load: the load comes again, the put is
// the same one.
func TestPutWhoseSwapFails(t *testing.T) {
	w := rowOf(t, three())
	w.make(t, multi(0, 1)) // cell 2 from 7 to 3
	w.goes(t, store(0, numberOfZero, 1), load(0, statusOfZero, 0), store(0, recordOfZero, recorded(1, 0, 0)), load(0, 2, 28))
	w.calls(t, yes, multi(1, 1), multi(2, 2)) // to 3 and back
	w.make(t, multi(1, 1))
	w.goes(t, store(1, numberOfOne+2, 1), load(1, statusOfOne+2, 0), store(1, recordOfOne, recorded(2, 4, 0)), load(1, 2, 28))
	w.goes(t, swap(1, 2, 28, marked(1, 2)))
	w.goes(t, fails(0, 2, 28, marked(0, 1), marked(1, 2)), load(0, 2, marked(1, 2)))
	w.goes(t, load(0, recordOfOne, recorded(2, 4, 0)), load(0, numberOfOne+2, 1), load(0, statusOfOne+2, 0), swap(0, 2, marked(1, 2), held(4)))
	w.goes(t, load(0, 2, held(4)))
	w.finish(t, 1)
	point := w.now() - 2
	if c := w.last(1); c.Answer != yes || c.Point != point {
		t.Fatalf("%+v", c)
	}
	// Behind the help of the other one the entry is put anew, by another put.
	w.goes(t, load(0, numberOfOne+2, 1), load(0, statusOfOne+2, 1), fails(0, 2, held(4), 12, 12),
		store(0, recordOfZero, recorded(2, 0, 0)), load(0, 2, 12))
	seen := w.now()
	w.goes(t, swap(0, statusOfZero, 0, 2), load(0, statusOfZero, 2), fails(0, 2, held(0), 28, 12))
	w.ended(t, 0, no, seen)
	w.wantHolds(t)
}

// P25.3: a swap that fails by a value: the load comes again, and tells what it sees then.
func TestPutWhoseCellIsChanged(t *testing.T) {
	w := rowOf(t, three())
	w.make(t, multi(0, 1))
	w.steps(t, 0, 4)
	w.calls(t, yes, multi(1, 1))
	w.goes(t, fails(0, 2, 28, marked(0, 1), 12), load(0, 2, 12))
	seen := w.now()
	w.goes(t, swap(0, statusOfZero, 0, 2))
	w.calls(t, yes, multi(2, 2))
	w.goes(t, load(0, statusOfZero, 2), fails(0, 2, held(0), 28, 28))
	w.ended(t, 0, no, seen)
	w.wantHolds(t)
}

// P25.3: the swap fails, and by the next load the cell has its Old again.
func TestPutWhoseCellIsChangedBack(t *testing.T) {
	w := rowOf(t, three())
	w.make(t, multi(0, 1))
	w.steps(t, 0, 4)
	w.calls(t, yes, multi(1, 1))
	w.goes(t, fails(0, 2, 28, marked(0, 1), 12))
	w.calls(t, yes, multi(2, 2))
	w.goes(t, load(0, 2, 28), swap(0, 2, 28, marked(0, 1)), load(0, recordOfZero, recorded(1, 0, 0)), load(0, numberOfZero, 1),
		load(0, statusOfZero, 0), swap(0, 2, marked(0, 1), held(0)), swap(0, statusOfZero, 0, 1))
	point := w.now()
	w.goes(t, load(0, statusOfZero, 1), swap(0, 2, held(0), 12))
	w.ended(t, 0, yes, point)
	w.wantHolds(t)
}

// P25.3: a mark in the cell, of a put that has gone on by the time its record is loaded: the cell is loaded again.
func TestPutThatMeetsAnOlderMark(t *testing.T) {
	w := rowOf(t, three())
	w.make(t, multi(0, 0))
	w.steps(t, 0, 5)
	w.make(t, multi(1, 8)) // cell 0 from 5 to 5
	w.goes(t, store(1, numberOfOne, 8), load(1, statusOfOne, 0), store(1, recordOfOne, recorded(1, 3, 0)), load(1, 0, marked(0, 1)))
	w.steps(t, 0, 5)
	w.goes(t, load(1, recordOfZero, recorded(2, 0, 1)), load(1, 0, held(0)), load(1, numberOfZero, 0))
	w.finish(t, 0)
	w.goes(t, load(1, statusOfZero, 1), fails(1, 0, held(0), 32, 32), fails(1, 2, held(0), 36, 36),
		store(1, recordOfOne, recorded(2, 3, 0)), load(1, 0, 32))
	seen := w.now()
	w.goes(t, swap(1, statusOfOne, 0, 2), load(1, statusOfOne, 2), fails(1, 0, held(3), 20, 32))
	w.ended(t, 1, no, seen)
	w.wantHolds(t)
}

// P25.3: marks count a thread's puts, over all of its calls, also those that put nothing.
func TestPutsAreCounted(t *testing.T) {
	w := rowOf(t, three())
	w.tells(t, multi(1, 3), no, 3, store(1, numberOfOne, 3), load(1, statusOfOne, 0), store(1, recordOfOne, recorded(1, 3, 0)),
		load(1, 1, 24), swap(1, statusOfOne, 0, 2), load(1, statusOfOne, 2), fails(1, 1, held(3), 16, 24))
	w.make(t, multi(1, 4))
	w.goes(t, store(1, numberOfOne+2, 4), load(1, statusOfOne+2, 0), store(1, recordOfOne, recorded(2, 4, 0)), load(1, 1, 24),
		swap(1, 1, 24, marked(1, 2)))
	w.finish(t, 1)
	w.make(t, multi(1, 0))
	w.steps(t, 1, 9)
	w.make(t, read(2, 0))
	// Thread 2 helps, and its puts are its own; thread 1's go on from its own.
	w.goes(t, load(2, 0, held(5)), load(2, numberOfOne+4, 0), load(2, statusOfOne+4, 0), store(2, recordOfTwo, recorded(1, 5, 0)),
		load(2, 0, held(5)), store(2, recordOfTwo, recorded(2, 5, 1)), load(2, 2, 28), swap(2, 2, 28, marked(2, 2)))
	w.goes(t, store(1, recordOfOne, recorded(4, 5, 1)), load(1, 2, marked(2, 2)), load(1, recordOfTwo, recorded(2, 5, 1)))
	w.finish(t, 2)
	w.finish(t, 1)
	w.wantHolds(t)
	w.make(t, multi(2, 5))
	w.steps(t, 2, 2)
	w.goes(t, store(2, recordOfTwo, recorded(3, 6, 0)))
}

// The greatest numbers of a record and a mark: the last thread, the last descriptor, the last entry.
func TestGreatestMarks(t *testing.T) {
	c := greatest()
	for i := range c.Swaps {
		c.Swaps[i] = swapOf([3]int{0, 1<<20 - 1, 1<<20 - 1}, [3]int{1, 1<<20 - 1, 1<<20 - 1}, [3]int{2, 1<<20 - 1, 1<<20 - 1}, [3]int{31, 1<<20 - 1, 1<<20 - 1})
	}
	w := rowOf(t, c)
	for range api.MaxMultiUses - 1 {
		w.calls(t, yes, multi(15, 15))
	}
	w.make(t, multi(15, 15))
	w.steps(t, 15, 2+3*7)
	d, top := 1023, 4*(1<<20-1)
	w.goes(t, store(15, 47, 256*4096+4095), load(15, 31, top), swap(15, 31, top, 4*(15+16*256)+1))
	w.wantCells(t, c.Cells...)
	w.goes(t, load(15, 47, 256*4096+4095), load(15, 48+2*d+1, 15), load(15, 48+2*d, 0), swap(15, 31, 4*(15+16*256)+1, 4*1023+2))
	w.wantCells(t, c.Cells...)
	w.goes(t, swap(15, 48+2*d, 0, 1), load(15, 48+2*d, 1))
	w.finish(t, 15)
	w.ended(t, 15, yes, w.now()-5)
	w.wantHolds(t)
}
