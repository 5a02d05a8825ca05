package list_test

import (
	"slices"
	"testing"

	"reclaim/api"
	"reclaim/word"
)

// with is a move with steps of its thread behind it.
func with(mv api.Move, steps int) []api.Move {
	return append([]api.Move{mv}, slices.Repeat([]api.Move{step(mv.Thread)}, steps)...)
}

// at gives accesses the numbers of moves, one behind the other.
func at(move int, accesses ...api.Access) []api.Access {
	for i := range accesses {
		accesses[i].Move = move + i
	}
	return accesses
}

// wantWhole asks what a script's run is; its words are those that the accesses leave.
func wantWhole(t *testing.T, c api.Config, moves []api.Move, want api.Run) {
	t.Helper()
	words, _ := word.First(c, 0)
	for _, a := range want.Trace {
		if a.Kind == api.AccessStore || a.Kind == api.AccessSwap && a.Saw == a.Old {
			words[a.Addr] = a.New
		}
	}
	want.Words = words
	wantRun(t, playOf(t, c, moves...), want)
}

// The chapter's examples: each call has just the steps that the chapter tells.
func TestExamples(t *testing.T) {
	moves := slices.Concat(with(register(0), 2), with(insert(0, 5), 11), with(contains(0, 5), 11), with(contains(0, 4), 11),
		with(contains(0, 6), 11), with(remove(0, 5), 16), with(remove(0, 5), 4))
	leave := []api.Access{store(0, 8, 0), store(0, 9, 0), store(0, 10, 0)}
	// find are the accesses of a Find over the one slot that there is.
	find := []api.Access{load(0, 5, 1), store(0, 9, 1), load(0, 5, 1), load(0, 17, 0), store(0, 8, 0), load(0, 17, 0), load(0, 13, 5), load(0, 5, 1)}
	contain := slices.Concat(find, leave)
	wantWhole(t, example(), moves, api.Run{
		Calls: []api.Call{
			{Op: api.OpRegister, Begin: 0, End: 2, Point: -1, Answer: value(0)},
			{Op: api.OpInsert, Arg: 5, Begin: 3, End: 14, Point: 11, Answer: yes},
			{Op: api.OpContains, Arg: 5, Begin: 15, End: 26, Point: 21, Answer: yes},
			{Op: api.OpContains, Arg: 4, Begin: 27, End: 38, Point: 35, Answer: no},
			{Op: api.OpContains, Arg: 6, Begin: 39, End: 50, Point: 45, Answer: no},
			{Op: api.OpDelete, Arg: 5, Begin: 51, End: 67, Point: 60, Answer: yes},
			{Op: api.OpDelete, Arg: 5, Begin: 68, End: 72, Point: 69, Answer: no},
		},
		Trace: slices.Concat(
			at(1, load(0, 7, 0), swap(0, 7, 0, 1, 0)),
			at(4, load(0, 5, 0), load(0, 0, head(0, 0)), load(0, 11, link(1)), swap(0, 0, head(0, 0), head(1, 1), head(0, 0)),
				store(0, 13, 5), store(0, 15, 0), store(0, 17, 0), swap(0, 5, 0, 1, 0)),
			at(12, slices.Clone(leave)...),
			at(16, slices.Clone(contain)...), at(28, slices.Clone(contain)...), at(40, slices.Clone(contain)...),
			at(52, slices.Concat(find, []api.Access{swap(0, 17, 0, marked(-1), 0), swap(0, 5, 1, 0, 1),
				load(0, 8, 0), load(0, 9, 1), load(0, 10, 0)}, leave)...),
			at(69, slices.Concat([]api.Access{load(0, 5, 0)}, leave)...),
		),
		Shifts: []api.Shift{
			{Move: 7, Slot: 0, From: api.StateFree, To: api.StateOwned},
			{Move: 11, Slot: 0, From: api.StateOwned, To: api.StateLinked},
			{Move: 61, Slot: 0, From: api.StateLinked, To: api.StateDetached},
			{Move: 61, Slot: 0, From: api.StateDetached, To: api.StateRetired},
		},
	})
}

// At the beginning the list is empty, and no slot is linked.
func TestBeginning(t *testing.T) {
	y := yardOf(t, example())
	y.wantSlots(t)
	y.wantState(t, 0, api.StateFree, -1)
	if r := playOf(t, example()); r.Words[rootAddr] != 0 {
		t.Errorf("%v", r.Words)
	}
}
