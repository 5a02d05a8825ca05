package ring_test

import (
	"slices"

	"reclaim/api"
)

// dice are the same numbers each time.
type dice uint64

func (d *dice) below(n int) int {
	*d = *d*6364136223846793005 + 1442695040888963407
	return int(uint64(*d) >> 33 % uint64(n))
}

// chanceRing has many threads or few, and few cells most of the time.
func chanceRing(d *dice) api.Ring {
	c := ringOf(1+d.below(5), 2+d.below(3))
	if d.below(6) == 0 {
		c.Threads = 6 + d.below(11)
	}
	if d.below(6) == 0 {
		c.Cells = 5 + d.below(api.MaxRing-4)
	}
	return c
}

// chanceMoves are moves of both calls, and others; steps come several at a time in some scripts, so that calls
// end, and one by one in others, so that they meet. Some scripts put more than they pick, some pick more. In
// some a thread is left where it is for long. Values are mostly unlike one another.
func chanceMoves(d *dice, c api.Ring, count int) []api.Move {
	puts, burst, alike, slow := 2+d.below(9), 1+d.below(3)*d.below(4), d.below(4) == 0, d.below(3) == 0
	var moves []api.Move
	for len(moves) < count {
		thread := d.below(c.Threads)
		if slow && thread == 0 && d.below(12) > 0 {
			thread = d.below(c.Threads)
		}
		if d.below(60) == 0 {
			thread = c.Threads - (c.Threads+1)*d.below(2)
		}
		mv := api.Move{Thread: thread, Arg: len(moves)}
		if alike {
			mv.Arg = d.below(3)
		}
		switch roll := d.below(36); {
		case roll < puts:
			mv.Op = api.OpPut
		case roll < 12:
			mv.Op = api.OpPick
		case roll == 12 && d.below(4) == 0:
			mv.Op, mv.Data = api.Op(d.below(130)), d.below(9)
		default:
			moves = append(moves, slices.Repeat([]api.Move{step(thread)}, d.below(burst))...)
			mv = step(thread)
		}
		moves = append(moves, mv)
	}
	return moves[:count]
}

// eachChance goes through scripts over many rings.
func eachChance(count int, do func(c api.Ring, moves []api.Move)) {
	d := dice(22)
	for range count {
		c := chanceRing(&d)
		do(c, chanceMoves(&d, c, d.below(900)))
	}
}
