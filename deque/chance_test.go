package deque_test

import (
	"slices"

	"reclaim/api"
)

// dice are the same numbers each time.
type dice uint64

func (d *dice) below(n int) int {
	*d = *d*6364136223846793005 + 1442695040888963407
	return int(uint64(*d) >> 33 % uint64(n))
}

// chanceDeque has many threads or few, and little room most of the time.
func chanceDeque(c *dice) api.Deque {
	d := dequeOf(1+c.below(5), 1+c.below(3))
	if c.below(6) == 0 {
		d.Threads = 6 + c.below(11)
	}
	if c.below(6) == 0 {
		d.Room = 4 + c.below(api.MaxRoom-3)
	}
	return d
}

// chanceMoves are moves of all calls, and others; steps come several at a time in some scripts, so that calls
// end, and one by one in others, so that they meet. In some scripts the owner is let go on more often, in some
// it pushes more than it takes. Values are mostly unlike one another.
func chanceMoves(c *dice, d api.Deque, count int) []api.Move {
	owners, pushes, burst, alike := c.below(4), 2+c.below(5), 1+c.below(3)*c.below(4), c.below(4) == 0
	var moves []api.Move
	for len(moves) < count {
		thread := c.below(d.Threads)
		if c.below(4) < owners {
			thread = 0
		}
		if c.below(60) == 0 {
			thread = d.Threads - (d.Threads+1)*c.below(2)
		}
		mv := api.Move{Thread: thread, Arg: len(moves)}
		if alike {
			mv.Arg = c.below(3)
		}
		switch roll := c.below(36); {
		case roll < pushes:
			mv.Op = api.OpDequePush
		case roll < 8:
			mv.Op = api.OpDequeTake
		case roll < 14:
			mv.Op = api.OpSteal
		case roll == 14 && c.below(4) == 0:
			mv.Op, mv.Data = api.Op(c.below(130)), c.below(9)
		default:
			moves = append(moves, slices.Repeat([]api.Move{step(thread)}, c.below(burst))...)
			mv = step(thread)
		}
		moves = append(moves, mv)
	}
	return moves[:count]
}

// eachChance goes through scripts over many deques.
func eachChance(count int, do func(d api.Deque, moves []api.Move)) {
	c := dice(21)
	for range count {
		d := chanceDeque(&c)
		do(d, chanceMoves(&c, d, c.below(900)))
	}
}
