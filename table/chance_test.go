package table_test

import (
	"testing"

	"reclaim/api"
)

// dice are the same numbers each time.
type dice uint64

func (d *dice) below(n int) int {
	*d = *d*6364136223846793005 + 1442695040888963407
	return int(uint64(*d) >> 33 % uint64(n))
}

// chance makes moves of the table's calls, of those of hazard, and others. It plays them as it goes, so that
// it knows when to leave a thread's call half done, for others to come by.
type chance struct {
	*dice
	*yard
	stays []int // of each thread, the move up to which it makes no step
	puts  int   // how many of 40 calls are adds
	keys  int   // the fewer there are the more calls meet at one
}

func (c *chance) moves(t *testing.T, count int) []api.Move {
	t.Helper()
	var moves []api.Move
	for thread := range c.c.Threads {
		moves = append(moves, with(register(thread), 2*c.c.Records)...)
	}
	for _, mv := range moves {
		c.m.Move(mv)
	}
	for len(moves) < count {
		mv := c.next()
		moves = append(moves, mv)
		if c.m.Move(mv); mv.Thread >= 0 && mv.Thread < c.c.Threads {
			c.stay(mv.Thread, len(moves))
		}
	}
	return moves
}

// next is a step of a busy thread and a call of an idle one, mostly.
func (c *chance) next() api.Move {
	thread := c.below(c.c.Threads)
	for range 5 {
		if c.stays[thread] > c.m.Moves() {
			thread = c.below(c.c.Threads)
		}
	}
	switch roll := c.below(50); {
	case roll == 0:
		return c.begin(c.c.Threads - (c.c.Threads+1)*c.below(2))
	case c.m.Busy(thread) == (roll < 47):
		return step(thread)
	}
	return c.begin(thread)
}

func (c *chance) begin(thread int) api.Move {
	key := c.below(c.keys) - 3
	switch roll := c.below(40); {
	case roll < c.puts:
		return add(thread, key, c.m.Moves()-100) // each one has a value of its own
	case roll < 27:
		return remove(thread, key)
	case roll < 33:
		return get(thread, key)
	case roll == 33:
		return post(thread, c.below(9))
	case roll < 35:
		return read(thread, c.below(c.c.Hazards+2)-1)
	case roll < 37:
		return clearing(thread, c.below(c.c.Hazards+2)-1)
	case roll == 37:
		return scan(thread)
	case roll == 38 && c.below(3) == 0:
		return unregister(thread)
	}
	return register(thread)
}

// stay lets a thread wait, if it has just put a mark or seen what its Get will answer by, and now and then.
func (c *chance) stay(thread, now int) {
	call, _ := c.m.Call(thread)
	marks := call.Op == api.OpRemove && call.Point == now-1
	sees := call.Op == api.OpGet && call.Point == now-3
	if marks && c.below(3) > 0 || sees && c.below(3) == 0 || c.below(30) == 0 {
		c.stays[thread] = now + c.below(60)
	}
}

// eachChance goes through scripts over tables of many sizes.
func eachChance(t *testing.T, count int, do func(c api.Config, moves []api.Move)) {
	t.Helper()
	d := dice(17)
	for range count {
		c := configOf(1+d.below(4), 1+d.below(4), 1+d.below(4), d.below(3), 1+d.below(9), 1+d.below(4))
		c.Hazards = 3 + d.below(2)
		by := &chance{&d, yardOf(t, c), make([]int, c.Threads), 9 + d.below(10), 1 + d.below(8)}
		do(c, by.moves(t, d.below(900)))
	}
}
