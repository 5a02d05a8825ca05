package mcas_test

import (
	"testing"

	"reclaim/api"
)

// three is a memory of three threads with swaps that have the same cells, and ones that undo them.
func three() api.Multi {
	return api.Multi{Threads: 3, Uses: 3, Cells: []int{5, 6, 7}, Swaps: [][]api.MultiEntry{
		swapOf([3]int{0, 5, 8}, [3]int{2, 7, 9}), // 0
		swapOf([3]int{2, 7, 3}),                  // 1
		swapOf([3]int{2, 3, 7}),                  // 2
		swapOf([3]int{1, 4, 2}),                  // 3: fails
		swapOf([3]int{1, 6, 4}),                  // 4
		swapOf([3]int{1, 4, 6}),                  // 5
		swapOf([3]int{0, 5, 1}, [3]int{1, 6, 1}), // 6
		swapOf([3]int{1, 6, 6}, [3]int{2, 1, 1}), // 7: fails at its second entry
		swapOf([3]int{0, 5, 5}),                  // 8
	}}
}

// Addresses of three.
const (
	recordOfZero = 3
	recordOfOne  = 4
	recordOfTwo  = 5
	statusOfZero = 6 // descriptor 0, thread 0's first
	numberOfZero = 7
	statusOfOne  = 12 // descriptor 3, thread 1's first
	numberOfOne  = 13
	statusOfTwo  = 18 // descriptor 6, thread 2's first
	numberOfTwo  = 19
)

// The constants are those of the chapter's words.
func TestAddressesOfThree(t *testing.T) {
	c := three()
	for _, pair := range [][2]int{
		{recordOfZero, recordAt(c, 0)}, {recordOfOne, recordAt(c, 1)}, {recordOfTwo, recordAt(c, 2)},
		{statusOfZero, statusAt(c, 0)}, {numberOfZero, numberAt(c, 0)}, {statusOfOne, statusAt(c, 3)},
		{numberOfOne, numberAt(c, 3)}, {statusOfTwo, statusAt(c, 6)}, {numberOfTwo, numberAt(c, 6)},
	} {
		if pair[0] != pair[1] {
			t.Errorf("%d, not %d", pair[0], pair[1])
		}
	}
}

// markedCell is a machine in which thread 0's first put has left its mark in cell 0, for descriptor 0.
func markedCell(t *testing.T) *row {
	t.Helper()
	w := rowOf(t, three())
	w.make(t, multi(0, 0))
	w.goes(t, store(0, numberOfZero, 0), load(0, statusOfZero, 0), store(0, recordOfZero, recorded(1, 0, 0)),
		load(0, 0, 20), swap(0, 0, 20, marked(0, 1)))
	return w
}

// P25.2: the status is 0: the descriptor holds the cell.
func TestSettleUndecided(t *testing.T) {
	w := markedCell(t)
	w.wantCells(t, 5, 6, 7)
	w.make(t, read(1, 0))
	w.goes(t, load(1, 0, marked(0, 1)), load(1, recordOfZero, recorded(1, 0, 0)), load(1, numberOfZero, 0),
		load(1, statusOfZero, 0), swap(1, 0, marked(0, 1), held(0)), load(1, 0, held(0)))
	w.wantCells(t, 5, 6, 7)
	w.pending(t, 0, 1)
	// Thread 0 finds its mark settled, and goes on to its next entry.
	w.goes(t, load(0, recordOfZero, recorded(1, 0, 0)), load(0, numberOfZero, 0), load(0, statusOfZero, 0),
		fails(0, 0, marked(0, 1), held(0), held(0)), store(0, recordOfZero, recorded(2, 0, 1)))
	w.finish(t, 0)
	w.finish(t, 1)
	w.wantCells(t, 8, 6, 9)
	w.wantHolds(t)
}

// P25.2: another put than the record's: the settling ends there, and the load comes again.
func TestSettleOfAnotherPut(t *testing.T) {
	w := markedCell(t)
	w.make(t, read(1, 0))
	w.goes(t, load(1, 0, marked(0, 1)))
	w.steps(t, 0, 5) // its mark settled, its record stored anew
	w.goes(t, load(1, recordOfZero, recorded(2, 0, 1)), load(1, 0, held(0)), load(1, numberOfZero, 0))
	w.finish(t, 1)
	w.finish(t, 0)
	w.wantCells(t, 8, 6, 9)
	w.wantHolds(t)
}

// P25.2: a record that goes on to another put behind the load of it: the swap fails, and all is well.
func TestSettleOfARecordThatGoesOn(t *testing.T) {
	w := markedCell(t)
	w.make(t, read(1, 0))
	w.goes(t, load(1, 0, marked(0, 1)), load(1, recordOfZero, recorded(1, 0, 0)))
	w.finish(t, 0)
	w.goes(t, load(1, numberOfZero, 0), load(1, statusOfZero, 1), fails(1, 0, marked(0, 1), 20, 32), load(1, 0, 32))
	w.ended(t, 1, value(8), w.now())
	w.wantHolds(t)
}

// aboutToFail is a machine in which thread 1 is about to have its descriptor 3 fail, and a mark of thread 0, that
// helps it, stands in cell 2: thread 2 had changed that cell while thread 1 looked at it.
func aboutToFail(t *testing.T) *row {
	t.Helper()
	w := rowOf(t, three())
	w.make(t, multi(1, 0))
	w.steps(t, 1, 9) // it holds cell 0
	w.goes(t, store(1, recordOfOne, recorded(2, 3, 1)))
	w.calls(t, yes, multi(2, 1))
	w.goes(t, load(1, 2, 12)) // seen: 3
	w.calls(t, yes, multi(2, 2))
	w.make(t, read(0, 0))
	w.goes(t, load(0, 0, held(3)), load(0, numberOfOne, 0), load(0, statusOfOne, 0),
		store(0, recordOfZero, recorded(1, 3, 0)), load(0, 0, held(3)),
		store(0, recordOfZero, recorded(2, 3, 1)), load(0, 2, 28), swap(0, 2, 28, marked(0, 2)))
	w.wantCells(t, 5, 6, 7)
	return w
}

// P25.2: the status is 2: the cell is again what it was.
func TestSettleFailed(t *testing.T) {
	w := aboutToFail(t)
	w.goes(t, swap(1, statusOfOne, 0, 2))
	w.wantCells(t, 5, 6, 7)
	w.make(t, read(2, 2))
	w.goes(t, load(2, 2, marked(0, 2)), load(2, recordOfZero, recorded(2, 3, 1)), load(2, numberOfOne, 0), load(2, statusOfOne, 2),
		swap(2, 2, marked(0, 2), 28), load(2, 2, 28))
	w.ended(t, 2, value(7), w.now())
	w.goes(t, load(0, recordOfZero, recorded(2, 3, 1)), load(0, numberOfOne, 0), load(0, statusOfOne, 2), fails(0, 2, marked(0, 2), 28, 28),
		fails(0, statusOfOne, 0, 1, 2), load(0, statusOfOne, 2), swap(0, 0, held(3), 20), fails(0, 2, held(3), 28, 28), load(0, 0, 20))
	w.ended(t, 0, value(5), w.now())
	w.wantHolds(t)
	w.finish(t, 1)
	w.wantCells(t, 5, 6, 7)
	w.wantHolds(t)
}

// P25.2: the status was 0, and is 2 by the time of the swap: the descriptor holds the cell behind its end, till its
// helper, or whoever meets it, takes it out.
func TestSettleBehindTheDecision(t *testing.T) {
	w := aboutToFail(t)
	w.goes(t, load(0, recordOfZero, recorded(2, 3, 1)), load(0, numberOfOne, 0), load(0, statusOfOne, 0))
	w.finish(t, 1)
	if c := w.last(1); c.Answer != no {
		t.Fatalf("%+v", c)
	}
	w.wantCells(t, 5, 6, 7)
	w.goes(t, swap(0, 2, marked(0, 2), held(3)))
	w.wantCells(t, 5, 6, 7)
	w.wantHolds(t)
	w.make(t, read(2, 2))
	w.goes(t, load(2, 2, held(3)), load(2, numberOfOne, 0), load(2, statusOfOne, 2), fails(2, 0, held(3), 20, 20), swap(2, 2, held(3), 28), load(2, 2, 28))
	w.ended(t, 2, value(7), w.now())
	w.goes(t, fails(0, statusOfOne, 0, 1, 2), load(0, statusOfOne, 2), fails(0, 0, held(3), 20, 20), fails(0, 2, held(3), 28, 28), load(0, 0, 20))
	w.ended(t, 0, value(5), w.now())
	w.wantHolds(t)
}

// P25.2: the status is 1: that of a descriptor that has succeeded without this mark, whose cell has had its Old
// again meanwhile: the cell is again what it was.
func TestSettleSucceeded(t *testing.T) {
	w := rowOf(t, three())
	w.make(t, multi(1, 4)) // 6 to 4
	w.steps(t, 1, 9)       // it holds cell 1
	w.make(t, read(0, 1))
	w.goes(t, load(0, 1, held(3)), load(0, numberOfOne, 4), load(0, statusOfOne, 0), store(0, recordOfZero, recorded(1, 3, 0)))
	w.finish(t, 1)
	w.calls(t, yes, multi(2, 5)) // 4 to 6
	w.goes(t, load(0, 1, 24), swap(0, 1, 24, marked(0, 1)))
	w.wantCells(t, 5, 6, 7)
	w.make(t, read(2, 1))
	w.goes(t, load(2, 1, marked(0, 1)), load(2, recordOfZero, recorded(1, 3, 0)), load(2, numberOfOne, 4), load(2, statusOfOne, 1),
		swap(2, 1, marked(0, 1), 24), load(2, 1, 24))
	w.ended(t, 2, value(6), w.now())
	// Its own settling comes too late, and it goes on as if it had put.
	w.goes(t, load(0, recordOfZero, recorded(1, 3, 0)), load(0, numberOfOne, 4), load(0, statusOfOne, 1), fails(0, 1, marked(0, 1), 24, 24),
		fails(0, statusOfOne, 0, 1, 1), load(0, statusOfOne, 1), fails(0, 1, held(3), 16, 24), load(0, 1, 24))
	w.ended(t, 0, value(6), w.now())
	w.wantHolds(t)
}
