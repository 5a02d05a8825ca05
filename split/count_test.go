package split_test

import (
	"slices"
	"testing"

	"reclaim/api"
)

// atCount is a machine in which thread 1's call of a key is ahead of its load of count.
func atCount(t *testing.T, y *yard, mv api.Move) *yard {
	t.Helper()
	y.make(t, mv)
	y.goesTo(t, mv.Thread, api.AccessLoad, countAt(y.s))
	return y
}

// P23.3: a count up is followed by a load of size, a count down is not.
func TestCounts(t *testing.T) {
	y := atCount(t, filled(t, pair(8, 4, 16), 4), add(1, 8, 80))
	y.goes(t, all(y.counts(1, 1, 2, 1), y.leaves(1))...)
	y.wantSizes(t, 2, 1)
	atCount(t, y, remove(1, 4))
	y.goes(t, all(y.counts(1, 2, 1), y.leaves(1))...)
	y.wantSizes(t, 1, 1)
}

// P23.3: a swap of count that fails: count is loaded again, and it is that number which is held against Load.
func TestCountSwapFails(t *testing.T) {
	y := atCount(t, filled(t, pair(9, 4, 3), 4, 8), add(1, 12, 120))
	s := y.s
	y.goes(t, load(1, countAt(s), 2))
	y.calls(t, yes, add(0, 16, 160))
	y.goes(t, fails(1, countAt(s), 2, 3, 3), load(1, countAt(s), 3))
	y.calls(t, value(40), remove(0, 4))
	y.goes(t, fails(1, countAt(s), 3, 4, 2), load(1, countAt(s), 2))
	y.calls(t, yes, add(0, 20, 200))
	y.goes(t, fails(1, countAt(s), 2, 3, 3), load(1, countAt(s), 3), swap(1, countAt(s), 3, 4))
	y.wantSizes(t, 4, 1)
	y.goes(t, load(1, sizeAt(s), 1), swap(1, sizeAt(s), 1, 2))
	y.goes(t, y.leaves(1)...)
	y.wantSizes(t, 4, 2)

	atCount(t, y, remove(1, 8))
	y.goes(t, load(1, countAt(s), 4))
	y.calls(t, yes, add(0, 4, 40))
	y.goes(t, fails(1, countAt(s), 4, 3, 5))
	y.goes(t, all(y.counts(1, 5, 4), y.leaves(1))...)
}

// P23.3: it is the number behind the swap that counts, not what count has come to meanwhile.
func TestCountGoesByItsOwnSwap(t *testing.T) {
	y := atCount(t, filled(t, pair(9, 4, 2), 4), add(1, 8, 80))
	s := y.s
	y.goes(t, y.counts(1, 1, 2)...)
	y.calls(t, yes, add(0, 12, 120))
	y.wantSizes(t, 3, 2)
	y.goes(t, load(1, sizeAt(s), 2))
	y.goes(t, y.leaves(1)...)

	y = atCount(t, filled(t, pair(9, 4, 2), 4, 8), add(1, 12, 120))
	y.goes(t, y.counts(1, 2, 3)...)
	y.calls(t, value(40), remove(0, 4))
	y.wantSizes(t, 2, 1)
	y.goes(t, load(1, sizeAt(s), 1), swap(1, sizeAt(s), 1, 2))
	y.goes(t, y.leaves(1)...)
	y.wantSizes(t, 2, 2)
}

// P23.3: the buckets are doubled as soon as there are more keys than Load for each of them, for each Load.
func TestDoubling(t *testing.T) {
	for load := 1; load <= api.MaxLoad; load++ {
		y := filled(t, splitOf(1, 1, 0, 200, 8, load))
		size := uint64(1)
		for count := 1; count <= 8*load+3 && count < 180; count++ {
			y.adds(t, count*64)
			if count > load*int(size) && size < 8 {
				size *= 2
			}
			y.wantSizes(t, count, size)
		}
	}
}

// P23.3: no more buckets than there are, also where their number is no power of two; then size is not swapped.
func TestNoDoublingBeyondBuckets(t *testing.T) {
	for buckets, most := range map[int]uint64{1: 1, 2: 2, 3: 2, 4: 4, 5: 4, 6: 4, 7: 4, 8: 8, 9: 8, 15: 8, 16: 16} {
		y := filled(t, splitOf(1, 1, 0, 30, buckets, 1))
		for i := range 20 {
			y.adds(t, i*64)
		}
		y.wantSizes(t, 20, most)
		atCount(t, y, add(0, 20*64, 0))
		y.goes(t, all(y.counts(0, 20, 21, most), y.leaves(0))...)
	}
}

// P23.3: a doubling that another thread has made: the swap fails, and is not made again.
func TestDoublingByAnother(t *testing.T) {
	y := atCount(t, filled(t, pair(9, 8, 1), 8), add(1, 16, 160))
	s := y.s
	y.goes(t, all(y.counts(1, 1, 2, 1))...)
	y.calls(t, yes, add(0, 24, 240)) // the third key: 1 to 2
	y.wantSizes(t, 3, 2)
	y.goes(t, fails(1, sizeAt(s), 1, 2, 2))
	y.goes(t, y.leaves(1)...)
	y.ended(t, 1, yes, y.last(1).Point)
	y.wantSizes(t, 3, 2)
	// Of two doublings that see the same size one is made.
	atCount(t, y, add(1, 32, 320))
	y.goes(t, y.counts(1, 3, 4, 2)...)
	atCount(t, y, add(0, 40, 400))
	y.goes(t, y.counts(0, 4, 5, 2)...)
	y.goes(t, swap(0, sizeAt(s), 2, 4), fails(1, sizeAt(s), 2, 4, 4))
	y.finish(t, 0)
	y.finish(t, 1)
	y.wantSizes(t, 5, 4)
}

// P23.3, P23.13: where a key is taken out ahead of its having been counted in, count is below 0 for a while.
func TestCountBelowZero(t *testing.T) {
	y := atCount(t, filled(t, pair(9, 4, 1)), add(1, 8, 80))
	s := y.s
	y.calls(t, value(80), remove(0, 8))
	y.wantSizes(t, -1, 1)
	y.wantTens(t)
	y.goes(t, load(1, countAt(s), 1<<64-1), swap(1, countAt(s), 1<<64-1, 0), load(1, sizeAt(s), 1))
	y.goes(t, y.leaves(1)...)
	y.wantSizes(t, 0, 1)
}

// P23.13: size stays, though there are fewer keys again.
func TestSizeStays(t *testing.T) {
	y := grown(t, pair(9, 8, 1), 8)
	y.wantSizes(t, 0, 8)
	y.adds(t, 1, 2, 3)
	y.wantSizes(t, 3, 8)
}

// What is given back is used again, for keys and for buckets, over and over.
func TestManyKeysThroughFewSlots(t *testing.T) {
	y := filled(t, splitOf(1, 1, 0, 9, 4, 1))
	var keys []int
	for i := range 300 {
		key := i * 37 % 101
		if at := slices.Index(keys, key); at >= 0 {
			t.Fatalf("key %d twice", key)
		}
		if len(keys) == 3 {
			y.calls(t, value(10*keys[0]), remove(0, keys[0]))
			keys = keys[1:]
		}
		y.adds(t, key)
		keys = append(keys, key)
		sorted := slices.Clone(keys)
		slices.Sort(sorted)
		y.wantTens(t, sorted...)
		y.wantHolds(t)
	}
	y.wantSizes(t, 3, 4)
	y.wantBuckets(t, 1, 2, 3)
}
