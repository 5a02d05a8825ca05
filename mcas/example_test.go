package mcas_test

import "testing"

// The chapter's examples 1 and 2, access by access.
func TestExampleOne(t *testing.T) {
	w := rowOf(t, example())
	w.wantWords(t, 20, 24, 28, 0, 0, 0, 0, 0, 0, 0, 0, 0, 0)
	w.tells(t, multi(0, 0), yes, 16,
		store(0, 6, 0), load(0, 5, 0),
		store(0, 3, 4096), load(0, 0, 20), swap(0, 0, 20, 65), load(0, 3, 4096), load(0, 6, 0), load(0, 5, 0), swap(0, 0, 65, 2),
		store(0, 3, 8193), load(0, 2, 28), swap(0, 2, 28, 129), load(0, 3, 8193), load(0, 6, 0), load(0, 5, 0), swap(0, 2, 129, 2),
		swap(0, 5, 0, 1), load(0, 5, 1), swap(0, 0, 2, 32), swap(0, 2, 2, 36))
	w.wantWords(t, 32, 24, 36, 8193, 0, 1, 0, 0, 0, 0, 0, 0, 0)
	w.wantCells(t, 8, 6, 9)
	w.wantHolds(t)

	// Example 2 goes on there.
	w.tells(t, multi(1, 0), no, 3,
		store(1, 10, 0), load(1, 9, 0), store(1, 4, recorded(1, 2, 0)), load(1, 0, 32),
		swap(1, 9, 0, 2), load(1, 9, 2), fails(1, 0, held(2), 20, 32), fails(1, 2, held(2), 28, 36))
	w.wantWords(t, 32, 24, 36, 8193, 4096+8, 1, 0, 0, 0, 2, 0, 0, 0)
	w.wantCells(t, 8, 6, 9)
	w.wantHolds(t)
}

// The chapter's example 3: a read meets a mark, and behind it the descriptor, which it helps to its end.
func TestExampleThree(t *testing.T) {
	w := rowOf(t, example())
	w.make(t, multi(0, 0))
	w.steps(t, 0, 12)
	w.wantWords(t, 2, 24, 129, 8193, 0, 0, 0, 0, 0, 0, 0, 0, 0)
	w.wantCells(t, 5, 6, 7)
	w.tells(t, read(1, 2), value(9), 16,
		load(1, 2, 129), load(1, 3, 8193), load(1, 6, 0), load(1, 5, 0), swap(1, 2, 129, 2),
		load(1, 2, 2), load(1, 6, 0), load(1, 5, 0),
		store(1, 4, recorded(1, 0, 0)), load(1, 0, 2), store(1, 4, recorded(2, 0, 1)), load(1, 2, 2),
		swap(1, 5, 0, 1), load(1, 5, 1), swap(1, 0, 2, 32), swap(1, 2, 2, 36), load(1, 2, 36))
	point := w.now() - 4
	w.pending(t, 0)
	w.wantCells(t, 8, 6, 9)
	w.wantHolds(t)

	// The swap goes on, and finds all of it done.
	w.goes(t, load(0, 3, 8193), load(0, 6, 0), load(0, 5, 1), fails(0, 2, 129, 28, 36),
		fails(0, 5, 0, 1, 1), load(0, 5, 1), fails(0, 0, 2, 32, 32))
	w.pending(t, 0)
	w.goes(t, fails(0, 2, 2, 36, 36))
	w.ended(t, 0, yes, point)
	w.wantHolds(t)
}
