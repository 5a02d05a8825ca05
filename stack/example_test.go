package stack_test

import (
	"slices"
	"testing"

	"reclaim/api"
	"reclaim/word"
)

// with is a move with steps of its thread behind it.
func with(mv api.Move, steps int) []api.Move {
	return append([]api.Move{mv}, slices.Repeat([]api.Move{step(mv.Thread)}, steps)...)
}

// at gives accesses the numbers of moves, one behind the other.
func at(move int, accesses ...api.Access) []api.Access {
	for i := range accesses {
		accesses[i].Move = move + i
	}
	return accesses
}

// wantWhole asks what a script's run is; its words are those that the accesses leave.
func wantWhole(t *testing.T, c api.Config, moves []api.Move, want api.Run) {
	t.Helper()
	words, _ := word.First(c, 0)
	for _, a := range want.Trace {
		if a.Kind == api.AccessStore || a.Kind == api.AccessSwap && a.Saw == a.Old {
			words[a.Addr] = a.New
		}
	}
	want.Words = words
	wantRun(t, playOf(t, c, moves...), want)
}

// The chapter's examples 1 to 3: each call has just the steps that the chapter tells.
func TestExamplesAlone(t *testing.T) {
	moves := slices.Concat(with(register(0), 2), with(push(0, 5), 7), with(pop(0), 13), with(pop(0), 1))
	wantWhole(t, example(), moves, api.Run{
		Calls: []api.Call{
			{Op: api.OpRegister, Begin: 0, End: 2, Point: -1, Answer: value(0)},
			{Op: api.OpPush, Arg: 5, Begin: 3, End: 10, Point: 10, Answer: done},
			{Op: api.OpPop, Begin: 11, End: 24, Point: 16, Answer: value(5)},
			{Op: api.OpPop, Begin: 25, End: 26, Point: 26, Answer: empty},
		},
		Trace: slices.Concat(
			at(1, load(0, 7, 0), swap(0, 7, 0, 1, 0)),
			at(4, load(0, 0, head(0, 0)), load(0, 11, link(1)), swap(0, 0, head(0, 0), head(1, 1), head(0, 0)),
				store(0, 13, 5), load(0, 2, 0), store(0, 17, 0), swap(0, 2, 0, link(0), 0)),
			at(12, load(0, 2, link(0)), store(0, 8, link(0)), load(0, 2, link(0)), load(0, 17, 0), swap(0, 2, link(0), 0, link(0)),
				load(0, 13, 5), store(0, 8, 0), load(0, 8, 0), load(0, 9, 0), load(0, 10, 0),
				load(0, 0, head(1, 1)), store(0, 11, link(1)), swap(0, 0, head(1, 1), head(2, 0), head(1, 1))),
			at(26, load(0, 2, 0)),
		),
		Shifts: []api.Shift{
			{Move: 6, From: api.StateFree, To: api.StateOwned},
			{Move: 10, From: api.StateOwned, To: api.StateLinked},
			{Move: 16, From: api.StateLinked, To: api.StateDetached},
			{Move: 18, From: api.StateDetached, To: api.StateRetired},
			{Move: 24, From: api.StateRetired, To: api.StateFree},
		},
	})
}

// The chapter's example 4: thread 1's hazard names what thread 0 pops. The memory of two threads and
// records, three slots: active 7 and 8, hazards 9 to 14, spare 15, value 18, link 24.
func TestExampleOfTwo(t *testing.T) {
	moves := slices.Concat(with(register(0), 2), with(register(1), 3), with(push(0, 5), 7), with(pop(1), 2),
		with(pop(0), 14), with(step(1), 1))
	wantWhole(t, configOf(2, 2, 1, 0, 3), moves, api.Run{
		Calls: []api.Call{
			{Op: api.OpRegister, Begin: 0, End: 2, Point: -1, Answer: value(0)},
			{Thread: 1, Op: api.OpRegister, Begin: 3, End: 6, Point: -1, Answer: value(1)},
			{Op: api.OpPush, Arg: 5, Begin: 7, End: 14, Point: 14, Answer: done},
			{Thread: 1, Op: api.OpPop, Begin: 15, End: 34, Point: 33, Answer: empty},
			{Op: api.OpPop, Begin: 18, End: 32, Point: 23, Answer: value(5)},
		},
		Trace: slices.Concat(
			at(1, load(0, 7, 0), swap(0, 7, 0, 1, 0)),
			at(4, load(1, 7, 1), load(1, 8, 0), swap(1, 8, 0, 1, 0)),
			at(8, load(0, 0, head(0, 0)), load(0, 15, link(1)), swap(0, 0, head(0, 0), head(1, 1), head(0, 0)),
				store(0, 18, 5), load(0, 2, 0), store(0, 24, 0), swap(0, 2, 0, link(0), 0)),
			at(16, load(1, 2, link(0)), store(1, 12, link(0))),
			at(19, load(0, 2, link(0)), store(0, 9, link(0)), load(0, 2, link(0)), load(0, 24, 0), swap(0, 2, link(0), 0, link(0)),
				load(0, 18, 5), store(0, 9, 0), load(0, 8, 1), load(0, 9, 0), load(0, 10, 0), load(0, 11, 0),
				load(0, 12, link(0)), load(0, 13, 0), load(0, 14, 0)),
			at(33, load(1, 2, 0), store(1, 12, 0)),
		),
		Shifts: []api.Shift{
			{Move: 10, From: api.StateFree, To: api.StateOwned},
			{Move: 14, From: api.StateOwned, To: api.StateLinked},
			{Move: 23, From: api.StateLinked, To: api.StateDetached},
			{Move: 25, From: api.StateDetached, To: api.StateRetired},
		},
	})
}
