package witness_test

import (
	"testing"

	"reclaim/api"
	"reclaim/witness"
)

// P12.2: who is ahead of whom; of no object too; none of itself; one that has not ended of nobody.
func TestBefore(t *testing.T) {
	behind := map[int][]int{ // of meeting: those that began behind a call's End
		0: {3, 4, 5, 6, 7},
		1: {4, 5, 6, 7},
		2: {3, 4, 5, 6, 7},
		3: {7},
		5: {6, 7},
	}
	l := meeting()
	for i := range l {
		is := make([]bool, len(l))
		for _, j := range behind[i] {
			is[j] = true
		}
		for j := range l {
			wantBefore(t, l, i, j, is[j])
		}
	}
}

// P12.2: an End just ahead of a Begin, and just behind it.
func TestBeforeEdge(t *testing.T) {
	l := calls(call(0, api.OpPop, 0, 0, 2, empty), call(1, api.OpPop, 0, 3, 9, empty))
	wantBefore(t, l, 0, 1, true)
	wantBefore(t, l, 1, 0, false)
	l[0].End = 4
	wantBefore(t, l, 0, 1, false)
	l = calls(open(0, api.OpPop, 0, 0), open(1, api.OpPop, 0, greatest))
	wantBefore(t, l, 0, 1, false)
	wantBefore(t, l, 1, 0, false)
}

// P12.2: numbers that are no call's, on either side.
func TestBeforeRange(t *testing.T) {
	for _, l := range [][]api.Call{nil, late(), meeting()} {
		for _, n := range []int{-1, len(l), len(l) + 1, 1 << 32, least, greatest} {
			for _, other := range []int{0, 1, n, -1, len(l)} {
				for _, pair := range [][2]int{{n, other}, {other, n}} {
					if got, e := witness.Before(l, pair[0], pair[1]); got || e != api.ErrRange {
						t.Errorf("Before of %d calls, %v = %v, %d", len(l), pair, got, e)
					}
				}
			}
		}
	}
}

// P12.3: of nothing, of calls that touch, of calls that never end, of calls that don't count.
func TestWidth(t *testing.T) {
	pop := func(thread, begin, end int) api.Call { return call(thread, api.OpPop, 0, begin, end, empty) }
	scan := func(thread, begin, end int) api.Call { return call(thread, api.OpScan, 0, begin, end, done) }
	wantWidth(t, nil, 0)
	wantWidth(t, []api.Call{}, 0)
	wantWidth(t, calls(pop(0, 0, 1)), 1)
	wantWidth(t, calls(open(0, api.OpPop, 0, greatest)), 1)
	wantWidth(t, calls(pop(0, 0, 3), pop(1, 4, 5)), 1)
	wantWidth(t, calls(pop(0, 0, 4), pop(1, 3, 5)), 2)
	wantWidth(t, calls(pop(0, 0, 3), pop(0, 4, 7), pop(0, 8, 11), pop(1, 12, 15)), 1)
	wantWidth(t, calls(pop(0, 0, 9), pop(1, 1, 3), pop(1, 4, 6), pop(1, 7, 8)), 2)
	wantWidth(t, calls(pop(0, 0, 9), pop(1, 1, 3), pop(1, 4, 6), pop(2, 5, 8)), 3)
	wantWidth(t, calls(pop(0, 0, 5), pop(1, 1, 6), pop(2, 2, 7), pop(0, 8, 20), pop(1, 9, 21)), 3)
	wantWidth(t, calls(pop(0, 0, 5), pop(1, 1, 6), pop(0, 8, 20), pop(1, 9, 21), pop(2, 10, 22)), 3)
	wantWidth(t, calls(open(0, api.OpPop, 0, 0), open(1, api.OpPop, 0, 1), open(2, api.OpPop, 0, greatest)), 3)
	wantWidth(t, calls(open(0, api.OpPop, 0, 0), pop(1, 1, 2), pop(1, 3, 4), pop(1, 5, greatest)), 2)
	wantWidth(t, calls(scan(0, 0, 5), scan(1, 1, 6), scan(2, 2, 7)), 3)
	wantWidth(t, calls(pop(0, 0, 5), scan(1, 1, 6), open(2, api.OpTake, 0, 2)), 3)
	wantWidth(t, meeting(), 3)
}

// P12.3: as many as there are threads, and not more for more calls.
func TestWidthOfAll(t *testing.T) {
	var l []api.Call
	for i := range 160 {
		l = append(l, call(i%16, api.OpPop, 0, 3*i, 3*i+3*15+1, empty))
	}
	wantWidth(t, l, 16)
	for i := range l {
		l[i].End = l[i].Begin + 1
	}
	wantWidth(t, l, 1)
}

// P12.4: by their points; without calls that don't count, and those that have none.
func TestPoints(t *testing.T) {
	wantPoints(t, nil)
	wantPoints(t, []api.Call{})
	wantPoints(t, meeting(), 0, 1, 3, 4, 7)
	wantPoints(t, calls(call(0, api.OpPop, 0, 0, 1, empty), open(1, api.OpPush, 0, 2)))
	wantPoints(t, calls(at(greatest, open(0, api.OpPush, 0, 0)), at(9, open(1, api.OpPush, 0, 1)), at(3, call(2, api.OpPop, 0, 2, 4, empty))), 2, 1, 0)
	for _, op := range foreign {
		wantPoints(t, calls(at(3, call(0, op, 0, 0, 5, done)), at(2, call(1, api.OpPop, 0, 1, 6, empty))), 1)
	}
	for object, of := range ops {
		for _, op := range of {
			wantPoints(t, calls(at(9, call(0, op, object, 0, 9, done)), at(2, call(1, op, 0, 1, 6, empty))), 1, 0)
		}
	}
}

// P12.4: the points may be no order of the calls, or one that does not explain them.
func TestPointsAlone(t *testing.T) {
	l := late()
	l[1].Point = -1
	wantPoints(t, l, 0, 2)
	wantCheck(t, l, list(0, 2), api.ErrOrder)
	l = late()
	l[2].Answer = value(2)
	wantPoints(t, l, 1, 0, 2)
	wantCheck(t, l, list(1, 0, 2), api.ErrAnswer)
}
