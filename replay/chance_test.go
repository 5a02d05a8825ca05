package replay_test

import (
	"testing"

	"reclaim/api"
)

// dice are the same numbers each time.
type dice uint64

func (d *dice) below(n int) int {
	*d = *d*6364136223846793005 + 1442695040888963407
	return int(uint64(*d) >> 33 % uint64(n))
}

func (d *dice) often(of10 int) bool { return d.below(10) < of10 }

// config is one of few slots, so that calls meet, with up to so many threads.
func (d *dice) config(threads int) api.Config {
	return configOf(1+d.below(threads), 1+d.below(4), 3+d.below(2), 1+d.below(3), d.below(3), 1+d.below(9), 1+d.below(3))
}

// script is one of so many moves: mostly calls that begin, and steps of them; one thread behind the other, or one for
// a while.
func (d *dice) script(c api.Config, count int) []api.Move {
	moves := registers(c)
	moves = moves[:min(count, len(moves))]
	thread, stays := 0, d.often(5)
	for len(moves) < count {
		if !stays || d.often(2) {
			thread = d.below(c.Threads)
		}
		mv := d.call(c, thread)
		if d.often(8) {
			mv = step(thread)
		}
		if d.below(20) == 0 {
			mv.Thread = d.absent(c)
		}
		moves = append(moves, mv)
	}
	return moves
}

// absent is a thread that there isn't.
func (d *dice) absent(c api.Config) int {
	return []int{-1, c.Threads, c.Threads + 1, -c.Threads, 16, 17, least, greatest, 1 << 32, -1 << 32}[d.below(10)]
}

// ops are those that the pool knows.
var ops = []api.Op{
	api.OpPush, api.OpPop, api.OpEnqueue, api.OpDequeue, api.OpInsert, api.OpDelete, api.OpContains, api.OpAdd, api.OpRemove, api.OpGet,
	api.OpPost, api.OpRead, api.OpClear, api.OpScan, api.OpTake, api.OpGive, api.OpFlush, api.OpRegister, api.OpUnregister,
}

// call is mostly one that begins.
func (d *dice) call(c api.Config, thread int) api.Move {
	mv := api.Move{Thread: thread, Op: ops[d.below(len(ops))], Arg: d.below(4), Data: d.below(50)}
	switch d.below(20) {
	case 0:
		mv.Op = []api.Op{api.OpLook, api.OpBump, 999, -1, least, greatest, api.OpPin}[d.below(7)]
	case 1:
		mv.Arg = []int{least, greatest, -1, 1 << 40}[d.below(4)]
	}
	return mv
}

// scripts are several ones, such without moves too.
func (d *dice) scripts(c api.Config, count, most int) [][]api.Move {
	var scripts [][]api.Move
	for range count {
		scripts = append(scripts, d.script(c, d.below(most+1)))
	}
	return scripts
}

// The scripts have calls of each op, and of each kind of answers, and such as don't end.
func TestChanceHasAll(t *testing.T) {
	d := dice(60)
	began, answers := map[api.Op]int{}, map[api.AnswerKind]int{}
	for range 200 {
		c := d.config(4)
		for _, call := range plain(t, c, d.script(c, 300)).Calls {
			began[call.Op]++
			answers[call.Answer.Kind]++
		}
	}
	for _, op := range ops {
		if began[op] < 20 {
			t.Errorf("op %d is begun %d times", op, began[op])
		}
	}
	for kind := api.AnswerNone; kind <= api.AnswerNo; kind++ {
		if answers[kind] < 20 {
			t.Errorf("kind %d is answered %d times", kind, answers[kind])
		}
	}
}
