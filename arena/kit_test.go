package arena_test

import (
	"math"
	"slices"
	"testing"

	"reclaim/api"
	"reclaim/arena"
	"reclaim/machine"
	"reclaim/word"
)

// The chapter's examples are of 2 threads and 3 slots.
func example(cache int) api.Config { return configOf(2, 3, cache) }

func playOf(t *testing.T, c api.Config, moves ...api.Move) api.Run {
	t.Helper()
	r, e := arena.Play(c, moves)
	if e != api.OK {
		t.Fatalf("Play = %d", e)
	}
	return r
}

// The chapter's examples 1 and 2.
func TestExampleTakeAndGive(t *testing.T) {
	c := example(1)
	r := playOf(t, c, take(0), step(0), step(0), step(0), give(0, 0), step(0), take(0), step(0))
	words, _ := word.First(c, 0)
	words[0] = head(1, 1)
	wantRun(t, r, api.Run{
		Calls: []api.Call{
			{Op: api.OpTake, Begin: 0, End: 3, Point: -1, Answer: value(0)},
			{Op: api.OpGive, Begin: 4, End: 5, Point: -1, Answer: done},
			{Op: api.OpTake, Begin: 6, End: 7, Point: -1, Answer: value(0)},
		},
		Trace: []api.Access{
			{Move: 1, Kind: api.AccessLoad, Addr: 0, Saw: head(0, 0)},
			{Move: 2, Kind: api.AccessLoad, Addr: spareOf(c, 0), Saw: link(1)},
			{Move: 3, Kind: api.AccessSwap, Addr: 0, Old: head(0, 0), New: head(1, 1), Saw: head(0, 0)},
		},
		Shifts: []api.Shift{
			{Move: 3, From: api.StateFree, To: api.StateOwned},
			{Move: 5, From: api.StateOwned, To: api.StateCached},
			{Move: 7, From: api.StateCached, To: api.StateOwned},
		},
		Words: words,
	})
}

// The chapter's example 3.
func TestExampleMeeting(t *testing.T) {
	r := playOf(t, example(1), take(0), take(1), step(0), step(0), step(1), step(1), step(0), step(1),
		step(1), step(1), step(1))
	want := []api.Call{
		{Op: api.OpTake, Begin: 0, End: 6, Point: -1, Answer: value(0)},
		{Thread: 1, Op: api.OpTake, Begin: 1, End: 10, Point: -1, Answer: value(1)},
	}
	if !slices.Equal(r.Calls, want) {
		t.Errorf("%+v", r.Calls)
	}
	failed := api.Access{Move: 7, Thread: 1, Kind: api.AccessSwap, Old: head(0, 0), New: head(1, 1), Saw: head(1, 1)}
	if len(r.Trace) != 9 || r.Trace[5] != failed {
		t.Errorf("%+v", r.Trace)
	}
}

// The chapter's examples 4 and 5.
func TestExampleNoCacheAndFull(t *testing.T) {
	y := yardOf(t, example(0), 0)
	y.takeAll(t, 0, 3)
	y.make(t, take(0))
	if steps := y.finish(t, 0); steps != 1 {
		t.Errorf("a fourth take: %d steps", steps)
	}
	if c, _ := y.m.Call(0); c.Answer != full || c.Point != -1 {
		t.Errorf("a fourth take: %+v", c)
	}
	y.wantTrace(t, api.Access{Kind: api.AccessLoad, Saw: head(3, -1)})
	y.make(t, give(0, 1))
	if steps := y.finish(t, 0); steps != 3 {
		t.Errorf("a give: %d steps", steps)
	}
	accesses := len(y.m.Run().Trace)
	y.make(t, flush(0))
	if steps := y.finish(t, 0); steps != 1 || len(y.m.Run().Trace) != accesses {
		t.Errorf("a flush: %d steps", steps)
	}
}

// P4.7: the arena's calls are these three.
func TestKit(t *testing.T) {
	kit := arenaOf(t, example(1), 0).Kit()
	if len(kit) != 3 {
		t.Errorf("%d calls", len(kit))
	}
	for _, op := range []api.Op{api.OpTake, api.OpGive, api.OpFlush} {
		if kit[op] == nil {
			t.Errorf("no op %d", op)
		}
	}
}

// P4.7: what the calls answer; none has a point, and Data is not looked at.
func TestAnswers(t *testing.T) {
	y := yardOf(t, configOf(2, 2, 1), 0)
	for i, c := range []struct {
		move   api.Move
		answer api.Answer
	}{
		{take(1), value(0)},
		{api.Move{Thread: 0, Op: api.OpTake, Arg: math.MinInt, Data: 5}, value(1)},
		{take(0), full},
		{take(1), full},
		{api.Move{Thread: 0, Op: api.OpGive, Arg: 1, Data: math.MaxInt}, done},
		{take(1), full},
		{take(0), value(1)},
		{give(0, 1), done},
		{api.Move{Thread: 0, Op: api.OpFlush, Arg: 77, Data: 78}, done},
		{flush(0), done},
		{take(1), value(1)},
		{give(1, 0), done},
		{give(1, 1), done},
		{take(0), value(1)},
	} {
		y.make(t, c.move)
		if _, known := y.m.Call(c.move.Thread); !known {
			t.Fatalf("move %d has begun nothing", i)
		}
		y.finish(t, c.move.Thread)
		got, _ := y.m.Call(c.move.Thread)
		if got.Answer != c.answer || got.Point != -1 || got.Arg != c.move.Arg || got.Data != c.move.Data {
			t.Errorf("move %d: %+v, not %+v", i, got, c.answer)
		}
	}
}

// P1: the move that begins a call makes no access and changes no state.
func TestBeginningDoesNothing(t *testing.T) {
	y := yardOf(t, configOf(1, 4, 2), 0)
	y.takeAll(t, 0, 3)
	for _, mv := range []api.Move{give(0, 1), flush(0), take(0), give(0, 0), give(0, 2), give(0, 1), take(0), flush(0)} {
		before, cached := y.m.Run(), y.Cached(0)
		y.make(t, mv)
		y.wantOnlyCalls(t, before)
		y.wantCache(t, 0, cached...)
		y.finish(t, 0)
	}
}

// P4.7: a slot that was told stays owned until it is given.
func TestTakenStaysOwned(t *testing.T) {
	y := yardOf(t, configOf(2, 3, 1), 0)
	y.takeAll(t, 0, 1)
	for range 3 {
		y.call(t, take(1))
		y.call(t, flush(1))
		y.call(t, flush(0))
		y.wantState(t, 0, api.StateOwned, 0)
	}
}

// P4.7: OpGive is refused for a slot that there isn't, is not owned, or is another thread's; nothing
// is recorded of it.
func TestGiveRefused(t *testing.T) {
	y := yardOf(t, configOf(2, 9, 1), 1)
	y.takeAll(t, 0, 7)
	y.call(t, give(0, 2))
	y.at(t, 0, func(d *machine.Desk) {
		y.Shift(d, 3, api.StateLinked)
		y.Shift(d, 4, api.StateDetached)
		y.Shift(d, 5, api.StateRetired)
	})
	before := y.m.Run()
	refused := []api.Move{
		give(0, 0), give(0, 2), give(0, 3), give(0, 4), give(0, 5), give(0, 8), // not owned
		give(1, 1), give(1, 7), give(1, 2), give(1, 0), give(1, 8), // another's, or not owned
		give(0, -1), give(0, 9), give(0, math.MinInt), give(0, math.MaxInt), give(1, 10), // not there
	}
	for _, mv := range refused {
		if y.m.Move(mv) || y.m.Busy(mv.Thread) {
			t.Errorf("%+v is not refused", mv)
		}
	}
	wantRun(t, y.m.Run(), before)
	y.make(t, give(0, 7), step(0))
}

// P4.7: the makers go by the thread that they are given.
func TestMakersThread(t *testing.T) {
	y := yardOf(t, configOf(2, 3, 2), 0)
	y.takeAll(t, 1, 2)
	kit := y.Kit()
	if kit[api.OpGive](0, give(1, 0)) != nil {
		t.Error("a give of another thread's slot is not refused")
	}
	y.begin(t, 1, kit[api.OpGive](1, give(0, 0)))
	y.finish(t, 1)
	y.wantCache(t, 1, 0)
	y.begin(t, 1, kit[api.OpTake](1, take(0)))
	if c, _ := y.m.Call(1); y.finish(t, 1) != 1 || c.Arg != 0 {
		t.Error("a take not from the own cache")
	}
	y.call(t, give(1, 1))
	y.begin(t, 1, kit[api.OpFlush](1, flush(0)))
	if y.finish(t, 1) != 3 {
		t.Error("a flush not of the own cache")
	}
}

// P4.8 and P8: a configuration that may not be comes ahead of too many moves.
func TestPlayRefuses(t *testing.T) {
	long := make([]api.Move, api.MaxMoves+1)
	for _, c := range oddConfigs() {
		for _, moves := range [][]api.Move{nil, {take(0)}, long} {
			if r, e := arena.Play(c, moves); e != api.ErrConfig || !zeroRun(r) {
				t.Errorf("Play(%+v, %d moves) = %d", c, len(moves), e)
			}
		}
	}
	if r, e := arena.Play(example(1), long); e != api.ErrLong || !zeroRun(r) {
		t.Errorf("Play(%d moves) = %d", len(long), e)
	}
}

func zeroRun(r api.Run) bool {
	return r.Calls == nil && r.Trace == nil && r.Shifts == nil && r.Words == nil
}

// P4.8: no moves, and as many as may be.
func TestPlayLimits(t *testing.T) {
	c := example(0)
	words, _ := word.First(c, 0)
	wantRun(t, playOf(t, c), api.Run{Words: words})
	moves := slices.Repeat([]api.Move{take(0), step(0), step(0), step(0), give(0, 0), step(0), step(0), step(0)}, api.MaxMoves/8)
	r := playOf(t, c, moves...)
	if len(moves) != api.MaxMoves || len(r.Calls) != api.MaxMoves/4 || r.Words[0] != head(api.MaxMoves/4, 0) {
		t.Errorf("%d calls, Free %x", len(r.Calls), r.Words[0])
	}
}

// P4.8: the machine has c's threads, word.First(c, 0), and the arena's calls alone.
func TestPlayMachine(t *testing.T) {
	c := configOf(3, 2, 1)
	words, _ := word.First(c, 0)
	idle := []api.Move{take(3), take(-1), step(0), give(0, 0), {Op: api.OpLook}, {Op: api.OpBump}, {Op: api.OpRegister}, {Op: -1}}
	wantRun(t, playOf(t, c, idle...), api.Run{Words: words})
	if r := playOf(t, c, take(2), step(2)); len(r.Calls) != 1 || len(r.Trace) != 1 || r.Trace[0].Saw != head(0, 0) {
		t.Errorf("%+v", r)
	}
}
