package deque_test

import (
	"math"
	"slices"
	"testing"

	"reclaim/api"
	"reclaim/deque"
)

// wordsOf are the words of a deque with that top and that bottom, and these cells.
func wordsOf(top, bottom int, cells ...int) []uint64 {
	words := []uint64{uint64(top), uint64(bottom)}
	for _, v := range cells {
		words = append(words, uint64(v))
	}
	return words
}

// wantNoRun asks that words are none of the deque's, at each call that looks at them.
func wantNoRun(t *testing.T, d api.Deque, words []uint64) {
	t.Helper()
	if list, e := deque.Left(d, words); list != nil || e != api.ErrDequeRun {
		t.Errorf("Left(%+v, %v) = %v, %d", d, words, list, e)
	}
	if so, e := deque.Holds(d, api.Run{Words: words}); so || e != api.ErrDequeRun {
		t.Errorf("Holds(%+v, %v) = %v, %d", d, words, so, e)
	}
	if list, e := deque.Spread(d, api.Run{Words: words}); list != nil || e != api.ErrDequeRun {
		t.Errorf("Spread(%+v, %v) = %v, %d", d, words, list, e)
	}
}

// P21.5: the values of the cells from top to bottom, round the ring's end too.
func TestLeft(t *testing.T) {
	d := dequeOf(1, 3)
	wantLeft(t, d, wordsOf(0, 0, 7, 8, 9))
	wantLeft(t, d, wordsOf(0, 1, 7, 8, 9), 7)
	wantLeft(t, d, wordsOf(0, 2, 7, 8, 9), 7, 8)
	wantLeft(t, d, wordsOf(0, 3, 7, 8, 9), 7, 8, 9)
	wantLeft(t, d, wordsOf(1, 4, 7, 8, 9), 8, 9, 7)
	wantLeft(t, d, wordsOf(2, 5, 7, 8, 9), 9, 7, 8)
	wantLeft(t, d, wordsOf(2, 4, 7, 8, 9), 9, 7)
	wantLeft(t, d, wordsOf(3, 5, 7, 8, 9), 7, 8)
	wantLeft(t, d, wordsOf(100, 103, 7, 8, 9), 8, 9, 7)
	wantLeft(t, d, wordsOf(101, 102, 7, 8, 9), 9)
	wantLeft(t, d, wordsOf(0, 3, math.MinInt, -1, math.MaxInt), math.MinInt, -1, math.MaxInt)
	wantLeft(t, dequeOf(16, 1), wordsOf(5, 6, 4), 4)
	wantLeft(t, dequeOf(16, 1), wordsOf(5, 5, 4))
}

// P21.5: there are none, if bottom is one below top; two below is none of the machine's words.
func TestLeftBelowTop(t *testing.T) {
	for _, room := range []int{1, 2, 3, api.MaxRoom} {
		d := dequeOf(2, room)
		for _, top := range []int{0, 1, 2, 3, 255, 256, api.MaxMoves - 1, api.MaxMoves} {
			cells := make([]int, room)
			wantLeft(t, d, wordsOf(top, top-1, cells...))
			wantLeft(t, d, wordsOf(top, top, cells...))
			wantLeft(t, d, wordsOf(top, top+room, cells...), cells...)
			wantNoRun(t, d, wordsOf(top, top-2, cells...))
			wantNoRun(t, d, wordsOf(top, top+room+1, cells...))
			wantNoRun(t, d, wordsOf(top, math.MinInt, cells...))
			wantNoRun(t, d, wordsOf(top, math.MaxInt, cells...))
		}
	}
}

// P21.5: top is 0 to MaxMoves.
func TestLeftTop(t *testing.T) {
	d := dequeOf(2, 2)
	wantLeft(t, d, wordsOf(0, 1, 5, 6), 5)
	wantLeft(t, d, wordsOf(api.MaxMoves, api.MaxMoves+2, 5, 6), 5, 6)
	for _, top := range []int{-1, -2, api.MaxMoves + 1, api.MaxMoves + 2, math.MinInt, math.MaxInt, math.MinInt + 1, math.MaxInt - 1, 1 << 32, -1 << 32} {
		for _, above := range []int{-1, 0, 1, 2} {
			wantNoRun(t, d, wordsOf(top, top+above, 5, 6))
		}
		wantNoRun(t, d, wordsOf(top, 0, 5, 6))
	}
}

// P21.5: as many words as there are.
func TestLeftCountsWords(t *testing.T) {
	for _, d := range edges() {
		for count := range 2 + d.Room + 3 {
			words := make([]uint64, count)
			if count == 2+d.Room {
				wantLeft(t, d, words)
			} else {
				wantNoRun(t, d, words)
			}
		}
		wantNoRun(t, d, nil)
		wantNoRun(t, d, make([]uint64, api.MaxWords+1))
	}
}

// P21.5 of all small tops and bottoms, by its words.
func TestLeftOfAllSmall(t *testing.T) {
	for room := 1; room <= 4; room++ {
		d := dequeOf(1, room)
		cells := []int{10, 11, 12, 13}[:room]
		for top := -3; top < 12; top++ {
			for bottom := -5; bottom < 20; bottom++ {
				if top < 0 || bottom < top-1 || bottom > top+room {
					wantNoRun(t, d, wordsOf(top, bottom, cells...))
					continue
				}
				var want []int
				for i := top; i < bottom; i++ {
					want = append(want, cells[i%room])
				}
				wantLeft(t, d, wordsOf(top, bottom, cells...), want...)
			}
		}
	}
}

// P21.5: the words stay as they were, and are not the answer's.
func TestLeftIsNew(t *testing.T) {
	d := dequeOf(1, 4)
	words := wordsOf(2, 6, 1, 2, 3, 4)
	one, _ := deque.Left(d, words)
	two, _ := deque.Left(d, words)
	smear(one, 77)
	if !slices.Equal(two, []int{3, 4, 1, 2}) || !slices.Equal(words, wordsOf(2, 6, 1, 2, 3, 4)) {
		t.Errorf("%v, %v", two, words)
	}
	smear(words, 5)
	if !slices.Equal(two, []int{3, 4, 1, 2}) {
		t.Errorf("%v", two)
	}
}
