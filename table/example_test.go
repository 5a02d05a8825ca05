package table_test

import (
	"slices"
	"testing"

	"reclaim/api"
	"reclaim/word"
)

// at gives accesses the numbers of moves, one behind the other.
func at(move int, accesses ...api.Access) []api.Access {
	numbered := slices.Clone(accesses)
	for i := range numbered {
		numbered[i].Move = move + i
	}
	return numbered
}

// wantWhole asks what a script's run is; its words are those that the accesses leave.
func wantWhole(t *testing.T, c api.Config, moves []api.Move, want api.Run) {
	t.Helper()
	words, _ := word.First(c, 0)
	for _, a := range want.Trace {
		if a.Kind == api.AccessStore || a.Kind == api.AccessSwap && a.Saw == a.Old {
			words[a.Addr] = a.New
		}
	}
	want.Words = words
	wantRun(t, playOf(t, c, moves...), want)
}

// The chapter's examples, and a Remove behind them: each call has just the steps that the chapter tells.
func TestExamples(t *testing.T) {
	moves := slices.Concat(with(register(0), 2), with(add(0, 5, 50), 11), with(get(0, 5), 12), with(get(0, 7), 11), with(remove(0, 5), 17), with(remove(0, 5), 4))
	leave := []api.Access{store(0, 9, 0), store(0, 10, 0), store(0, 11, 0)}
	// find are the accesses of a Find over the one slot that there is.
	find := []api.Access{load(0, 7, 1), store(0, 10, 1), load(0, 7, 1), load(0, 18, 0), store(0, 9, 0), load(0, 18, 0), load(0, 14, 5), load(0, 7, 1)}
	see := []api.Access{load(0, 16, 50)}
	wantWhole(t, example(), moves, api.Run{
		Calls: []api.Call{
			{Op: api.OpRegister, Begin: 0, End: 2, Point: -1, Answer: value(0)},
			{Op: api.OpAdd, Arg: 5, Data: 50, Begin: 3, End: 14, Point: 11, Answer: yes},
			{Op: api.OpGet, Arg: 5, Begin: 15, End: 27, Point: 21, Answer: value(50)},
			{Op: api.OpGet, Arg: 7, Begin: 28, End: 39, Point: 34, Answer: no},
			{Op: api.OpRemove, Arg: 5, Begin: 40, End: 57, Point: 49, Answer: value(50)},
			{Op: api.OpRemove, Arg: 5, Begin: 58, End: 62, Point: 59, Answer: no},
		},
		Trace: slices.Concat(
			at(1, load(0, 8, 0), swap(0, 8, 0, 1, 0)),
			at(4, load(0, 7, 0), load(0, 0, head(0, 0)), load(0, 12, link(1)), swap(0, 0, head(0, 0), head(1, 1), head(0, 0)),
				store(0, 14, 5), store(0, 16, 50), store(0, 18, 0), swap(0, 7, 0, 1, 0)),
			at(12, leave...),
			at(16, slices.Concat(find, see, leave)...),
			at(29, slices.Concat(find, leave)...),
			at(41, slices.Concat(find, []api.Access{swap(0, 18, 0, marked(-1), 0)}, see, []api.Access{swap(0, 7, 1, 0, 1),
				load(0, 9, 0), load(0, 10, 1), load(0, 11, 0)}, leave)...),
			at(59, slices.Concat([]api.Access{load(0, 7, 0)}, leave)...),
		),
		Shifts: []api.Shift{
			{Move: 7, Slot: 0, From: api.StateFree, To: api.StateOwned},
			{Move: 11, Slot: 0, From: api.StateOwned, To: api.StateLinked},
			{Move: 51, Slot: 0, From: api.StateLinked, To: api.StateDetached},
			{Move: 51, Slot: 0, From: api.StateDetached, To: api.StateRetired},
		},
	})
}

// At the beginning all buckets are empty, and no slot is linked.
func TestBeginning(t *testing.T) {
	y := yardOf(t, example())
	y.wantPairs(t, nil)
	y.wantState(t, 0, api.StateFree, -1)
	if r := playOf(t, example()); r.Words[6] != 0 || r.Words[7] != 0 {
		t.Errorf("%v", r.Words)
	}
}
