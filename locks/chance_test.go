package locks_test

import (
	"slices"

	"reclaim/api"
)

// dice are the same numbers each time.
type dice uint64

func (d *dice) below(n int) int {
	*d = *d*6364136223846793005 + 1442695040888963407
	return int(uint64(*d) >> 33 % uint64(n))
}

// chanceLocks are of any kind, and have few threads most of the time.
func chanceLocks(d *dice) api.Locks {
	c := locksOf(1+d.below(4), kinds()[d.below(7)])
	if d.below(5) == 0 {
		c.Threads = 5 + d.below(12)
	}
	return c
}

// chanceMoves are moves of all calls, and others; steps come several at a time in some scripts, so that calls
// end, and one by one in others, so that they meet. In some a thread is left where it is for long, in some all
// want to be inside as often as they can, in some shares are many.
func chanceMoves(d *dice, c api.Locks, count int) []api.Move {
	burst, slow, shares, eager := 1+d.below(4)*d.below(6), d.below(4) == 0, d.below(3), d.below(3) == 0
	var moves []api.Move
	for len(moves) < count {
		thread := d.below(c.Threads)
		if slow && thread == 0 && d.below(12) > 0 {
			thread = d.below(c.Threads)
		}
		if d.below(60) == 0 {
			thread = c.Threads - (c.Threads+1)*d.below(2)
		}
		mv := api.Move{Thread: thread, Op: chanceOp(d, shares)}
		switch roll := d.below(36); {
		case roll < 12 && eager:
			// What a thread can't begin where it stands does nothing, so that one of these is begun.
			moves = append(moves, release(thread), acquire(thread))
			mv.Op = api.OpTouch
		case roll < 13:
		case roll == 13 && d.below(4) == 0:
			mv = api.Move{Thread: thread, Op: api.Op(d.below(150)), Arg: d.below(9) - 4, Data: d.below(9)}
		default:
			moves = append(moves, slices.Repeat([]api.Move{step(thread)}, d.below(burst))...)
			mv = step(thread)
		}
		moves = append(moves, mv)
	}
	return moves[:count]
}

func chanceOp(d *dice, shares int) api.Op {
	if d.below(4) < shares {
		return []api.Op{api.OpShare, api.OpUnshare}[d.below(2)]
	}
	return []api.Op{api.OpAcquire, api.OpRelease, api.OpTouch}[d.below(3)]
}

// eachChance goes through scripts over many locks.
func eachChance(count int, do func(c api.Locks, moves []api.Move)) {
	d := dice(24)
	for range count {
		c := chanceLocks(&d)
		do(c, chanceMoves(&d, c, d.below(900)))
	}
}
