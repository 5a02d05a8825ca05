package pool_test

import (
	"slices"
	"testing"

	"reclaim/api"
	"reclaim/machine"
)

// dice are the same numbers each time.
type dice uint64

func (d *dice) below(n int) int {
	*d = *d*6364136223846793005 + 1442695040888963407
	return int(uint64(*d) >> 33 % uint64(n))
}

// chance makes moves of all calls, and others. It plays them as it goes, so that it knows when to leave a
// thread's call half done, for others to come by.
type chance struct {
	*dice
	c     api.Config
	m     *machine.Machine
	stays []int // of each thread, the move up to which it makes no step
	puts  int   // how many of 10 calls of an object put something in
	keys  int   // the fewer there are the more calls meet at one
	likes []int // the objects of which most calls are
}

func chanceOf(t *testing.T, d *dice, c api.Config) *chance {
	t.Helper()
	likes := []int{1, 2, 3, 4, 5}
	if d.below(2) == 0 {
		likes = []int{1 + d.below(5), 1 + d.below(5)}
	}
	return &chance{d, c, machineOf(t, c), make([]int, c.Threads), 4 + d.below(4), 1 + d.below(7), likes}
}

// scriptOf is a script of that many moves.
func scriptOf(t *testing.T, d *dice, c api.Config, count int) []api.Move {
	t.Helper()
	by := chanceOf(t, d, c)
	var moves []api.Move
	for thread := range c.Threads {
		moves = append(moves, with(register(thread), 2*c.Records)...)
	}
	moves = moves[:min(count, len(moves))]
	for _, mv := range moves {
		by.m.Move(mv)
	}
	for len(moves) < count {
		mv := by.next()
		moves = append(moves, mv)
		if by.m.Move(mv); mv.Thread >= 0 && mv.Thread < c.Threads {
			by.stay(mv.Thread, len(moves))
		}
	}
	return moves
}

// next is a step of a busy thread and a call of an idle one, mostly.
func (by *chance) next() api.Move {
	thread := by.below(by.c.Threads)
	for range 5 {
		if by.stays[thread] > by.m.Moves() {
			thread = by.below(by.c.Threads)
		}
	}
	switch roll := by.below(50); {
	case roll == 0:
		return by.begin(by.c.Threads - (by.c.Threads+1)*by.below(2))
	case by.m.Busy(thread) == (roll < 47):
		return step(thread)
	}
	return by.begin(thread)
}

// begin is a call of an object, mostly.
func (by *chance) begin(thread int) api.Move {
	switch roll := by.below(40); {
	case roll < 29:
		return by.ofObject(thread, by.likes[by.below(len(by.likes))])
	case roll < 32:
		return by.ofObject(thread, 1+by.below(5))
	case roll == 32:
		return move(thread, api.OpTake, 0)
	case roll < 35:
		return move(thread, api.OpGive, by.below(by.c.Slots+2)-1)
	case roll == 35 && by.below(2) == 0:
		return move(thread, api.OpFlush, 0)
	case roll == 36:
		return move(thread, api.OpClear, by.below(by.c.Hazards+2)-1)
	case roll == 37:
		return move(thread, api.OpScan, 0)
	case roll == 38 && by.below(3) == 0:
		return move(thread, api.OpUnregister, 0)
	case roll == 39 && by.below(3) == 0:
		return move(thread, api.OpLook+api.Op(by.below(2)), by.below(9))
	}
	return register(thread)
}

// ofObject is a call of an object. Each value that is put in is another one.
func (by *chance) ofObject(thread, object int) api.Move {
	fresh, key := by.m.Moves()-100, by.below(by.keys)-3
	puts, first := by.below(10) < by.puts, by.below(2)
	switch {
	case object == 1 && !puts:
		return move(thread, api.OpRead, by.below(by.c.Hazards+2)-1)
	case object >= 4 && puts:
		return api.Move{Thread: thread, Op: objects[object][0], Arg: key, Data: fresh}
	case object >= 4:
		return move(thread, objects[object][1+first], key)
	case puts:
		return move(thread, objects[object][0], fresh)
	}
	return move(thread, objects[object][1], 0)
}

// stay lets a thread wait now and then, mostly where it has just had its point: there its call has done what
// it does, and has not ended.
func (by *chance) stay(thread, now int) {
	call, _ := by.m.Call(thread)
	if call.Point == now-1 && by.below(3) > 0 || by.below(30) == 0 {
		by.stays[thread] = now + by.below(60)
	}
}

// eachChance goes through scripts over pools of many sizes.
func eachChance(t *testing.T, count int, do func(c api.Config, moves []api.Move)) {
	t.Helper()
	d := dice(29)
	for range count {
		c := configOf(1+d.below(4), 1+d.below(4), 1+d.below(4), d.below(3), 1+d.below(12), 1+d.below(4))
		c.Hazards = 3 + d.below(2)
		do(c, scriptOf(t, &d, c, d.below(900)))
	}
}

// The scripts have calls of each op, begun by several threads.
func TestChanceHasAllOps(t *testing.T) {
	began := map[api.Op]int{}
	eachChance(t, 60, func(c api.Config, moves []api.Move) {
		for _, call := range playOf(t, c, moves...).Calls {
			began[call.Op]++
		}
	})
	for _, op := range slices.Concat(objects...) {
		if began[op] < 5 {
			t.Errorf("op %d is begun %d times", op, began[op])
		}
	}
}
