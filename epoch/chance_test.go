package epoch_test

import (
	"slices"

	"reclaim/api"
)

// dice are the same numbers each time.
type dice uint64

func (d *dice) below(n int) int {
	*d = *d*6364136223846793005 + 1442695040888963407
	return int(uint64(*d) >> 33 % uint64(n))
}

// chanceConfig has many threads or few, few slots most of the time, and a bag that is soon full.
func chanceConfig(d *dice) api.Config {
	c := configOf(1+d.below(5), 1+d.below(4), d.below(3), 1+d.below(7))
	c.Buckets, c.Hazards, c.Records = 1+d.below(3), 3+d.below(2), 1+d.below(3)
	if d.below(8) == 0 {
		c.Threads = 6 + d.below(11)
	}
	if d.below(8) == 0 {
		c.Slots = 8 + d.below(40)
	}
	return c
}

// chanceMoves are moves of all calls, and others; steps come several at a time in some scripts, so that
// calls end, and one by one in others, so that they meet. Some scripts stow more than they draw, in some
// threads stay pinned for long.
func chanceMoves(d *dice, c api.Config, count int) []api.Move {
	stows, unpins, burst := 3+d.below(5), 1+d.below(3), 1+d.below(3)*d.below(4)
	var moves []api.Move
	for len(moves) < count {
		thread := d.below(c.Threads)
		if d.below(60) == 0 {
			thread = c.Threads - (c.Threads+1)*d.below(2)
		}
		switch roll := d.below(44); {
		case roll < stows:
			moves = append(moves, stow(thread, d.below(9)))
		case roll < 11:
			moves = append(moves, draw(thread))
		case roll < 14:
			moves = append(moves, pin(thread))
		case roll < 14+unpins:
			moves = append(moves, unpin(thread))
		case roll == 17 || roll == 18:
			moves = append(moves, advance(thread))
		case roll == 19:
			moves = append(moves, collect(thread))
		case roll == 20 && d.below(4) == 0:
			moves = append(moves, api.Move{Thread: thread, Op: api.Op(d.below(130)), Arg: d.below(9), Data: d.below(9)})
		default:
			moves = append(moves, slices.Repeat([]api.Move{step(thread)}, 1+d.below(burst))...)
		}
	}
	return moves[:count]
}

// eachChance goes through scripts over many configurations.
func eachChance(count int, do func(c api.Config, moves []api.Move)) {
	d := dice(20)
	for range count {
		c := chanceConfig(&d)
		do(c, chanceMoves(&d, c, d.below(900)))
	}
}
