package split_test

import (
	"testing"

	"reclaim/api"
)

// dice are the same numbers each time.
type dice uint64

func (d *dice) below(n int) int {
	*d = *d*6364136223846793005 + 1442695040888963407
	return int(uint64(*d) >> 33 % uint64(n))
}

// chanceSplit has many threads or few, and few slots most of the time.
func chanceSplit(d *dice) api.Split {
	s := splitOf(1+d.below(4), 1+d.below(4), d.below(3), 1+d.below(14), 1+d.below(9), 1+d.below(2))
	s.Config.Records, s.Config.Hazards = 1+d.below(4), 3+d.below(2)
	switch d.below(8) {
	case 0:
		s.Config.Threads, s.Config.Records = 5+d.below(12), 5+d.below(12)
	case 1:
		s.Config.Slots, s.Config.Buckets = 20+d.below(60), 1+d.below(api.MaxBuckets)
	case 2:
		s.Load = 1 + d.below(api.MaxLoad)
	}
	return s
}

// chance makes moves of the table's calls, of those of hazard, and others. It plays them as it goes, so that
// it knows when to leave a thread's call half done, for others to come by.
type chance struct {
	*dice
	*yard
	stays []int // of each thread, the move up to which it makes no step
	puts  int   // how many of 40 calls are adds
	keys  int   // the fewer there are the more calls meet at one
	high  int   // which bits of the keys are far up
}

func chanceOf(t *testing.T, d *dice, s api.Split) *chance {
	t.Helper()
	c := &chance{
		dice: d, yard: yardOf(t, s), stays: make([]int, s.Config.Threads),
		puts: 9 + d.below(12), keys: 1 + d.below(6), high: d.below(30),
	}
	if d.below(3) == 0 {
		c.keys += d.below(3 * s.Config.Slots)
	}
	return c
}

func (c *chance) moves(count int) []api.Move {
	var moves []api.Move
	for thread := range c.s.Config.Threads {
		moves = append(moves, register(thread))
		for range 2 * c.s.Config.Records {
			moves = append(moves, step(thread))
		}
	}
	for _, mv := range moves {
		c.m.Move(mv)
	}
	for len(moves) < count {
		mv := c.pick()
		moves = append(moves, mv)
		if c.m.Move(mv); mv.Thread >= 0 && mv.Thread < c.s.Config.Threads {
			c.stay(mv.Thread, len(moves))
		}
	}
	return moves
}

// pick is a step of a busy thread and a call of an idle one, mostly.
func (c *chance) pick() api.Move {
	threads := c.s.Config.Threads
	thread := c.below(threads)
	for range 5 {
		if c.stays[thread] > c.m.Moves() {
			thread = c.below(threads)
		}
	}
	switch roll := c.below(50); {
	case roll == 0:
		return c.begin(threads - (threads+1)*c.below(2))
	case c.m.Busy(thread) == (roll < 48):
		return step(thread)
	}
	return c.begin(thread)
}

// key is mostly one of few, now and then none.
func (c *chance) key() int {
	switch c.below(40) {
	case 0:
		return []int{-1, api.MaxSplitKey, api.MaxSplitKey + 1, -1 << 63, 1<<63 - 1, 1 << 31}[c.below(6)]
	case 1:
		return c.below(api.MaxSplitKey + 1)
	}
	key := c.below(c.keys)
	if c.below(3) == 0 {
		key ^= 1 << c.high
	}
	return key
}

func (c *chance) begin(thread int) api.Move {
	switch roll := c.below(40); {
	case roll < c.puts:
		return add(thread, c.key(), c.m.Moves()-100) // each one has a value of its own
	case roll < 28:
		return remove(thread, c.key())
	case roll < 35:
		return get(thread, c.key())
	case roll == 35 && c.below(2) == 0:
		return api.Move{Thread: thread, Op: api.OpPost, Arg: c.below(9)}
	case roll == 36:
		return api.Move{Thread: thread, Op: api.OpRead + api.Op(c.below(2)), Arg: c.below(c.s.Config.Hazards+2) - 1}
	case roll == 37:
		return api.Move{Thread: thread, Op: api.OpScan}
	case roll == 38 && c.below(3) == 0:
		return api.Move{Thread: thread, Op: api.OpUnregister}
	case roll == 39 && c.below(2) == 0:
		return api.Move{Thread: thread, Op: api.Op(c.below(150)), Arg: c.below(9), Data: c.below(9)}
	}
	return register(thread)
}

// stay lets a thread wait, if it has just put a mark or seen what it will answer by, or is ahead of a swap, and
// now and then.
func (c *chance) stay(thread, now int) {
	call, _ := c.m.Call(thread)
	sees := call.End < 0 && (call.Point == now-1 || call.Point == now-3)
	if sees && c.below(3) > 0 || c.below(25) == 0 {
		c.stays[thread] = now + c.below(60)
	}
}

// eachChance goes through scripts over tables of many sizes.
func eachChance(t *testing.T, count int, do func(s api.Split, moves []api.Move)) {
	t.Helper()
	d := dice(17)
	for range count {
		s := chanceSplit(&d)
		do(s, chanceOf(t, &d, s).moves(d.below(900)))
	}
}
