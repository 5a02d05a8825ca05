package replay_test

import (
	"slices"
	"testing"

	"reclaim/api"
	"reclaim/replay"
	"reclaim/word"
)

// Example 1: no moves, and too many.
func TestExampleOfPlay(t *testing.T) {
	words, _ := word.First(example(), 1)
	wantPlay(t, "no moves", example(), nil, api.Run{Words: words})
	given{c: example(), scripts: [][]api.Move{make([]api.Move, 65537)}}.wantNoRun(t, "65537 moves", api.ErrLong)
}

// Example 2: a register of two steps, a pop that finds nothing in one, a push.
func TestExampleOfUntil(t *testing.T) {
	moves := slices.Concat(with(register(0), 2), with(pop(0), 1), with(push(0, 1), 9))
	wantUntil(t, "the example", example(), moves, empty, 5)
	wantUntil(t, "the example", example(), moves, value(7), len(moves))
	wantUntil(t, "the example", example(), moves, value(0), 3)
}

// Example 3: two scripts with three workers, no workers, no scripts.
func TestExampleOfBatch(t *testing.T) {
	scripts := [][]api.Move{
		slices.Concat(with(register(0), 2), with(push(0, 5), 7)),
		slices.Concat(with(register(0), 2), with(pop(0), 1)),
	}
	wantBatch(t, "the example", example(), scripts, 3, plains(t, example(), scripts))
	given{c: example(), scripts: scripts}.wantNoRuns(t, "no workers", api.ErrRange)
	if runs, e := replay.Batch(example(), nil, 3); len(runs) != 0 || e != api.OK {
		t.Errorf("no scripts: %v, %d", runs, e)
	}
}
