package census_test

import (
	"testing"

	"reclaim/api"
)

// wanting is a tale of two threads whose slots are all used: thread 1 is in a call from move 1 on, thread 0 in one
// that began in 2, ended in 20, and answered Full.
func wanting(op api.Op, point int) *tale {
	return taleOf(configOf(2, 2, 3, 1, 2, 2, 1), 2, open(1, api.OpScan, 1), at(point, call(0, op, 2, 20, full)))
}

// P13.5: with and without a slot that was there, ahead of the point.
func TestDishonest(t *testing.T) {
	wanting(api.OpPush, 10).wantDishonest(t, "no slot")
	for _, thread := range []int{0, 1} {
		for s := free; s <= retired; s++ {
			want := []int(nil)
			if s == free || s == cached && thread == 0 {
				want = []int{1}
			}
			for _, move := range []int{3, 9} {
				wanting(api.OpPush, 10).shift(move, thread, 1, s).wantDishonest(t, "a slot ahead of the point", want...)
			}
			for _, move := range []int{10, 11, 19, 20} {
				x := wanting(api.OpPush, 10)
				if move == 20 && thread == 1 { // that move is thread 0's
					move = 21
				}
				x.shift(move, thread, 1, s).wantDishonest(t, "a slot in the move of the point, or behind it")
			}
		}
	}
	x := wanting(api.OpPush, 10).shift(5, 0, 0, free).shift(9, 1, 0, owned)
	x.wantDishonest(t, "a slot that was taken by then")
	x = wanting(api.OpPush, 10).shift(5, 1, 0, free).shift(10, 0, 0, owned)
	x.wantDishonest(t, "a slot that was taken in the move of the point", 1)
	x = wanting(api.OpPush, 10).shift(5, 0, 0, cached).shift(6, 0, 1, cached).shift(7, 0, 0, owned)
	x.wantDishonest(t, "one of two that were cached", 1)
	x.shift(8, 0, 1, owned).wantDishonest(t, "none of two")
	x = wanting(api.OpPush, 10).shift(5, 0, 0, cached).shift(6, 1, 0, cached)
	x.wantDishonest(t, "a cache that another thread took it for")
}

// P13.5: a call that has no point is not asked, but for OpTake, whose End counts, whatever its point.
func TestDishonestPoints(t *testing.T) {
	for _, op := range []api.Op{api.OpPush, api.OpRegister, api.OpPost, api.OpGive, api.OpStep, -1} {
		wanting(op, -1).shift(3, 0, 0, free).wantDishonest(t, "no point")
		wanting(op, 5).shift(3, 0, 0, free).wantDishonest(t, "a point", 1)
	}
	for _, point := range []int{-1, 5, 20} {
		wanting(api.OpTake, point).shift(3, 0, 0, free).wantDishonest(t, "a take", 1)
		wanting(api.OpTake, point).shift(19, 1, 0, free).wantDishonest(t, "a take, and a slot just ahead of its end", 1)
		wanting(api.OpTake, point).shift(19, 0, 0, cached).wantDishonest(t, "a take, and its thread's cache", 1)
		wanting(api.OpTake, point).shift(19, 1, 0, cached).wantDishonest(t, "a take, and another's cache")
		wanting(api.OpTake, point).shift(20, 0, 0, free).wantDishonest(t, "a take, and a slot in the move of its end")
		wanting(api.OpTake, point).shift(3, 0, 0, free).shift(19, 0, 0, owned).wantDishonest(t, "a take, and a slot that was there at its point")
	}
}

// P13.5: calls that answered otherwise, or not, are not asked.
func TestDishonestAnswers(t *testing.T) {
	for kind := api.AnswerDone; kind <= api.AnswerNo; kind++ {
		for _, op := range []api.Op{api.OpPush, api.OpTake} {
			x := wanting(op, 10).shift(3, 0, 0, free)
			x.r.Calls[1].Answer = api.Answer{Kind: kind}
			if kind != api.AnswerFull {
				x.wantDishonest(t, "another answer")
			} else {
				x.wantDishonest(t, "Full", 1)
			}
		}
	}
	x := wanting(api.OpTake, 10).shift(3, 0, 0, free)
	x.r.Calls[1].Answer, x.r.Calls[1].End = none, -1
	x.wantDishonest(t, "one that has not ended")
}

// P13.5: numbers rise, whatever the order of the points, of which several may be one move's.
func TestDishonestRises(t *testing.T) {
	x := taleOf(configOf(4, 1, 3, 1, 1, 1, 1), 0,
		at(16, call(0, api.OpPush, 0, 20, full)),
		call(1, api.OpTake, 1, 30, full),
		at(15, call(2, api.OpPush, 2, 21, full)),
		at(16, call(3, api.OpPush, 3, 22, full)),
		at(32, call(0, api.OpPush, 31, 33, full)),
	)
	x.wantDishonest(t, "all", 0, 1, 2, 3, 4)
	x.shift(15, 2, 0, owned)
	x.wantDishonest(t, "behind a take", 2)
	x.shift(29, 1, 0, free)
	x.wantDishonest(t, "and a give", 1, 2, 4)
	taleOf(tiny(), 0).wantDishonest(t, "nothing")
}

// P13.5: claims at the greatest moves.
func TestDishonestAtTheEdge(t *testing.T) {
	x := taleOf(tiny(), 0, at(greatest, call(0, api.OpPush, 0, greatest, full)))
	x.wantDishonest(t, "free slots", 0)
	x.shift(5, 0, 0, owned).shift(greatest-1, 0, 1, owned).wantDishonest(t, "none")
	x.shift(greatest, 0, 1, free).wantDishonest(t, "none")
}
