package queue_test

import (
	"slices"
	"testing"

	"reclaim/api"
	"reclaim/word"
)

// with is a move with steps of its thread behind it.
func with(mv api.Move, steps int) []api.Move {
	return append([]api.Move{mv}, slices.Repeat([]api.Move{step(mv.Thread)}, steps)...)
}

// at gives accesses the numbers of moves, one behind the other.
func at(move int, accesses ...api.Access) []api.Access {
	for i := range accesses {
		accesses[i].Move = move + i
	}
	return accesses
}

// wantWhole asks what a script's run is; its words are those that the accesses leave.
func wantWhole(t *testing.T, c api.Config, moves []api.Move, want api.Run) {
	t.Helper()
	words, _ := word.First(c, 1)
	for _, a := range want.Trace {
		if a.Kind == api.AccessStore || a.Kind == api.AccessSwap && a.Saw == a.Old {
			words[a.Addr] = a.New
		}
	}
	want.Words = words
	wantRun(t, playOf(t, c, moves...), want)
}

// The chapter's examples: each call has just the steps that the chapter tells.
func TestExamples(t *testing.T) {
	moves := slices.Concat(with(register(0), 2), with(enqueue(0, 7), 12), with(dequeue(0), 17), with(dequeue(0), 7))
	wantWhole(t, example(), moves, api.Run{
		Calls: []api.Call{
			{Op: api.OpRegister, Begin: 0, End: 2, Point: -1, Answer: value(0)},
			{Op: api.OpEnqueue, Arg: 7, Begin: 3, End: 15, Point: 13, Answer: done},
			{Op: api.OpDequeue, Begin: 16, End: 33, Point: 25, Answer: value(7)},
			{Op: api.OpDequeue, Begin: 34, End: 41, Point: 39, Answer: empty},
		},
		Trace: slices.Concat(
			at(1, load(0, 7, 0), swap(0, 7, 0, 1, 0)),
			at(4, load(0, 0, head(0, 1)), load(0, 12, link(2)), swap(0, 0, head(0, 1), head(1, 2), head(0, 1)),
				store(0, 15, 7), store(0, 21, 0), load(0, 4, 1), store(0, 8, 1), load(0, 4, 1), load(0, 20, 0),
				swap(0, 20, 0, 2, 0), swap(0, 4, 1, 2, 1), store(0, 8, 0)),
			at(17, load(0, 3, 1), store(0, 8, 1), load(0, 3, 1), load(0, 4, 2), load(0, 20, 2), store(0, 9, 2), load(0, 3, 1),
				load(0, 15, 7), swap(0, 3, 1, 2, 1), store(0, 8, 0), store(0, 9, 0),
				load(0, 8, 0), load(0, 9, 0), load(0, 10, 0),
				load(0, 0, head(1, 2)), store(0, 11, link(2)), swap(0, 0, head(1, 2), head(2, 0), head(1, 2))),
			at(35, load(0, 3, 2), store(0, 8, 2), load(0, 3, 2), load(0, 4, 2), load(0, 21, 0), store(0, 8, 0), store(0, 9, 0)),
		),
		Shifts: []api.Shift{
			{Move: 6, Slot: 1, From: api.StateFree, To: api.StateOwned},
			{Move: 13, Slot: 1, From: api.StateOwned, To: api.StateLinked},
			{Move: 25, Slot: 0, From: api.StateLinked, To: api.StateDetached},
			{Move: 27, Slot: 0, From: api.StateDetached, To: api.StateRetired},
			{Move: 33, Slot: 0, From: api.StateRetired, To: api.StateFree},
		},
	})
}

// The section 'Words': at the beginning slot 0 is the dummy; it is Linked, and Head and Tail name it.
func TestBeginning(t *testing.T) {
	y := yardOf(t, example())
	y.wantEnds(t, 0, 0)
	y.wantQueue(t)
	y.wantState(t, 0, api.StateLinked, -1)
	y.wantState(t, 1, api.StateFree, -1)
	if r := playOf(t, example()); r.Words[headAddr] != link(0) || r.Words[tailAddr] != link(0) {
		t.Errorf("%v", r.Words)
	}
}
