package hazard_test

import (
	"math"
	"slices"
	"testing"

	"reclaim/api"
	"reclaim/hazard"
	"reclaim/word"
)

// with is a move with steps of its thread behind it.
func with(mv api.Move, steps int) []api.Move {
	return append([]api.Move{mv}, slices.Repeat([]api.Move{step(mv.Thread)}, steps)...)
}

// examples are the moves of the chapter's examples up to that one; each call has just the steps that
// the chapter tells, but the first one, which has the one more that does nothing.
func examples(last int) []api.Move {
	parts := [][]api.Move{
		with(register(0), 3),
		with(post(0, 5), 6),
		slices.Concat(with(register(1), 3), with(read(1, 0), 4), with(post(0, 6), 13)),
		slices.Concat(with(clearing(1, 0), 1), with(scan(0), 10)),
		with(unregister(1), 5),
	}
	return slices.Concat(parts[:last]...)
}

// wantBehind asks what an example adds to the ones ahead of it.
func wantBehind(t *testing.T, number int, want api.Run) {
	t.Helper()
	got, ahead := playOf(t, example(), examples(number)...), playOf(t, example(), examples(number-1)...)
	got.Calls = got.Calls[len(ahead.Calls):]
	got.Trace = got.Trace[len(ahead.Trace):]
	got.Shifts = got.Shifts[len(ahead.Shifts):]
	first, _ := word.First(example(), 0)
	words := slices.Clone(ahead.Words)
	if number == 1 {
		words = first
	}
	for _, a := range want.Trace {
		if a.Kind != api.AccessLoad {
			words[a.Addr] = a.New
		}
	}
	want.Words = words
	wantRun(t, got, want)
}

// at gives accesses the numbers of moves, one behind the other.
func at(move int, accesses ...api.Access) []api.Access {
	for i := range accesses {
		accesses[i].Move = move + i
	}
	return accesses
}

// The chapter's examples 1 and 2.
func TestExampleRegisterAndPost(t *testing.T) {
	wantBehind(t, 1, api.Run{
		Calls: []api.Call{{Op: api.OpRegister, Begin: 0, End: 2, Point: -1, Answer: value(0)}},
		Trace: at(1, load(0, 7, 0), swap(0, 7, 0, 1, 0)),
	})
	wantBehind(t, 2, api.Run{
		Calls: []api.Call{{Op: api.OpPost, Arg: 5, Begin: 4, End: 10, Point: 10, Answer: done}},
		Trace: at(5, load(0, 0, 1), load(0, 15, 2), swap(0, 0, 1, 4294967298, 1), store(0, 18, 5),
			load(0, 1, 0), swap(0, 1, 0, 1, 0)),
		Shifts: []api.Shift{
			{Move: 7, Slot: 0, From: api.StateFree, To: api.StateOwned},
			{Move: 10, Slot: 0, From: api.StateOwned, To: api.StateLinked},
		},
	})
}

// The chapter's example 3.
func TestExampleNamed(t *testing.T) {
	wantBehind(t, 3, api.Run{
		Calls: []api.Call{
			{Thread: 1, Op: api.OpRegister, Begin: 11, End: 14, Point: -1, Answer: value(1)},
			{Thread: 1, Op: api.OpRead, Begin: 15, End: 19, Point: 18, Answer: value(5)},
			{Op: api.OpPost, Arg: 6, Begin: 20, End: 33, Point: 26, Answer: done},
		},
		Trace: slices.Concat(
			at(12, load(1, 7, 1), load(1, 8, 0), swap(1, 8, 0, 1, 0)),
			at(16, load(1, 1, 1), store(1, 12, 1), load(1, 1, 1), load(1, 18, 5)),
			at(21, load(0, 0, head(1, 1)), load(0, 16, link(2)), swap(0, 0, head(1, 1), head(2, 2), head(1, 1)),
				store(0, 19, 6), load(0, 1, 1), swap(0, 1, 1, 2, 1),
				load(0, 8, 1), load(0, 9, 0), load(0, 10, 0), load(0, 11, 0), load(0, 12, 1), load(0, 13, 0), load(0, 14, 0)),
		),
		Shifts: []api.Shift{
			{Move: 23, Slot: 1, From: api.StateFree, To: api.StateOwned},
			{Move: 26, Slot: 1, From: api.StateOwned, To: api.StateLinked},
			{Move: 26, Slot: 0, From: api.StateLinked, To: api.StateDetached},
			{Move: 26, Slot: 0, From: api.StateDetached, To: api.StateRetired},
		},
	})
}

// The chapter's examples 4 and 5.
func TestExampleScanAndUnregister(t *testing.T) {
	wantBehind(t, 4, api.Run{
		Calls: []api.Call{
			{Thread: 1, Op: api.OpClear, Begin: 34, End: 35, Point: -1, Answer: done},
			{Op: api.OpScan, Begin: 36, End: 46, Point: -1, Answer: done},
		},
		Trace: slices.Concat(
			at(35, store(1, 12, 0)),
			at(37, load(0, 8, 1), load(0, 9, 0), load(0, 10, 0), load(0, 11, 0), load(0, 12, 0), load(0, 13, 0), load(0, 14, 0),
				load(0, 0, head(2, 2)), store(0, 15, link(2)), swap(0, 0, head(2, 2), head(3, 0), head(2, 2))),
		),
		Shifts: []api.Shift{{Move: 46, Slot: 0, From: api.StateRetired, To: api.StateFree}},
	})
	wantBehind(t, 5, api.Run{
		Calls: []api.Call{{Thread: 1, Op: api.OpUnregister, Begin: 47, End: 52, Point: -1, Answer: done}},
		Trace: at(48, store(1, 12, 0), store(1, 13, 0), store(1, 14, 0), load(1, 7, 1), store(1, 8, 0)),
	})
}

// P5.4: the calls are these six.
func TestKit(t *testing.T) {
	kit := hazard.New(arenaOf(t, example())).Kit()
	if len(kit) != 6 {
		t.Errorf("%d calls", len(kit))
	}
	for _, op := range []api.Op{api.OpRegister, api.OpUnregister, api.OpPost, api.OpRead, api.OpClear, api.OpScan} {
		if kit[op] == nil {
			t.Errorf("no op %d", op)
		}
	}
}

// odd are numbers that are looked at only where a call says so.
var odd = []int{-1, 3, math.MinInt, math.MaxInt}

// The table of calls: a thread that holds no record begins none but OpRegister, one that holds a
// record does not begin that; nothing is recorded of what is refused.
func TestRefusedForTheRecord(t *testing.T) {
	y := yardOf(t, example())
	y.call(t, register(1))
	before := y.m.Run()
	for _, arg := range append(odd, 0, 1, 2) {
		for op := api.OpUnregister; op <= api.OpScan; op++ {
			if mv := (api.Move{Op: op, Arg: arg, Data: arg}); y.m.Move(mv) || y.m.Busy(0) {
				t.Errorf("%+v is not refused", mv)
			}
		}
		if mv := (api.Move{Thread: 1, Op: api.OpRegister, Arg: arg}); y.m.Move(mv) {
			t.Errorf("%+v is not refused", mv)
		}
	}
	wantRun(t, y.m.Run(), before)
	y.wantRecord(t, 0, -1)
	y.wantRecord(t, 1, 0)
}

// The table of calls: a read and a clear of a hazard that there isn't are refused.
func TestRefusedForTheHazard(t *testing.T) {
	for hazards := api.MinHazards; hazards <= api.MaxHazards; hazards++ {
		c := example()
		c.Hazards = hazards
		y := yardOf(t, c)
		y.call(t, register(0))
		before := y.m.Run()
		for _, k := range []int{-1, hazards, hazards + 1, math.MinInt, math.MaxInt} {
			if y.m.Move(read(0, k)) || y.m.Move(clearing(0, k)) {
				t.Errorf("hazard %d of %d is not refused", k, hazards)
			}
		}
		wantRun(t, y.m.Run(), before)
		for k := range hazards {
			y.make(t, read(0, k))
			y.finish(t, 0)
			y.make(t, clearing(0, k))
			y.finish(t, 0)
		}
	}
}

// The table of calls: in all other cases they begin, whatever stands in what they don't look at.
func TestBegunOtherwise(t *testing.T) {
	for _, n := range append(odd, 0, 1) {
		y := yardOf(t, example())
		for _, c := range []struct {
			move   api.Move
			answer api.Answer
		}{
			{api.Move{Op: api.OpRegister, Arg: n, Data: n}, value(0)},
			{api.Move{Op: api.OpRead, Arg: 1, Data: n}, empty},
			{api.Move{Op: api.OpPost, Arg: n, Data: n}, done},
			{api.Move{Op: api.OpRead, Arg: 2, Data: n}, value(n)},
			{api.Move{Op: api.OpClear, Arg: 2, Data: n}, done},
			{api.Move{Op: api.OpScan, Arg: n, Data: n}, done},
			{api.Move{Op: api.OpUnregister, Arg: n, Data: n}, done},
			{api.Move{Op: api.OpRegister, Arg: n, Data: n}, value(0)},
		} {
			if got := y.call(t, c.move); got.Answer != c.answer || got.Arg != c.move.Arg || got.Data != n {
				t.Errorf("%+v, not %+v", got, c.answer)
			}
		}
	}
}

// P3: a thread that is busy begins nothing.
func TestBusy(t *testing.T) {
	y := yardOf(t, example())
	y.make(t, register(0))
	before := y.m.Run()
	for op := api.OpRegister; op <= api.OpScan; op++ {
		if y.m.Move(api.Move{Op: op}) {
			t.Errorf("op %d is not refused", op)
		}
	}
	wantRun(t, y.m.Run(), before)
}

// P1: the move that begins a call makes no access, does no local work and changes no state.
func TestBeginningDoesNothing(t *testing.T) {
	y := yardOf(t, configOf(1, 2, 1, 2, 4))
	for _, mv := range []api.Move{
		register(0), scan(0), post(0, 1), post(0, 2), read(0, 1), post(0, 3), scan(0), clearing(0, 1), scan(0), post(0, 4),
		unregister(0), register(0),
	} {
		before, record, cached, list := y.m.Run(), y.Record(0), y.a.Cached(0), y.List(0)
		y.make(t, mv)
		y.wantOnlyCalls(t, before)
		y.wantRecord(t, 0, record)
		y.wantList(t, 0, list...)
		if !slices.Equal(y.a.Cached(0), cached) {
			t.Errorf("%+v changes the cache", mv)
		}
		y.finish(t, 0)
	}
}

// P5.4: the makers go by the thread that they are given, and refuse one that there isn't.
func TestMakersThread(t *testing.T) {
	y := yardOf(t, example())
	y.calls(t, register(1), register(0))
	kit := y.Kit()
	if kit[api.OpRegister](0, register(7)) != nil || kit[api.OpScan](2, scan(0)) != nil {
		t.Error("not refused")
	}
	y.begin(t, 0, kit[api.OpClear](0, clearing(1, 2)))
	from := y.accesses()
	y.finish(t, 0)
	y.wantSeen(t, from, store(0, y.addr(api.RegionHazard, 1, 2), 0))
	y.begin(t, 0, kit[api.OpUnregister](0, unregister(1)))
	y.finish(t, 0)
	y.wantRecord(t, 0, -1)
	y.wantRecord(t, 1, 0)
	for _, thread := range []int{-1, 2, math.MinInt, math.MaxInt} {
		for op, maker := range kit {
			if maker(thread, api.Move{Op: op}) != nil {
				t.Errorf("op %d of thread %d is not refused", op, thread)
			}
		}
	}
}

// oddConfigs are configurations that may not be.
func oddConfigs() []api.Config {
	list := []api.Config{{}}
	for _, spoil := range []func(c *api.Config){
		func(c *api.Config) { c.Threads = 0 },
		func(c *api.Config) { c.Threads = api.MaxThreads + 1 },
		func(c *api.Config) { c.Records = 0 },
		func(c *api.Config) { c.Records = api.MaxRecords + 1 },
		func(c *api.Config) { c.Hazards = api.MinHazards - 1 },
		func(c *api.Config) { c.Hazards = api.MaxHazards + 1 },
		func(c *api.Config) { c.Retire = 0 },
		func(c *api.Config) { c.Retire = api.MaxRetire + 1 },
		func(c *api.Config) { c.Cache = -1 },
		func(c *api.Config) { c.Cache = api.MaxCache + 1 },
		func(c *api.Config) { c.Slots = 0 },
		func(c *api.Config) { c.Slots = api.MaxSlots + 1 },
		func(c *api.Config) { c.Buckets = 0 },
		func(c *api.Config) { c.Buckets = api.MaxBuckets + 1 },
	} {
		c := example()
		spoil(&c)
		list = append(list, c)
	}
	return list
}

// P5.4 and P8: a configuration that may not be comes ahead of too many moves.
func TestPlayRefuses(t *testing.T) {
	long := make([]api.Move, api.MaxMoves+1)
	for _, c := range oddConfigs() {
		for _, moves := range [][]api.Move{nil, {register(0)}, long} {
			if r, e := hazard.Play(c, moves); e != api.ErrConfig || !zeroRun(r) {
				t.Errorf("Play(%+v, %d moves) = %d", c, len(moves), e)
			}
		}
	}
	if r, e := hazard.Play(example(), long); e != api.ErrLong || !zeroRun(r) {
		t.Errorf("Play(%d moves) = %d", len(long), e)
	}
}

func zeroRun(r api.Run) bool {
	return r.Calls == nil && r.Trace == nil && r.Shifts == nil && r.Words == nil
}

// P5.4: no moves, and as many as may be; the smallest configuration and the greatest.
func TestPlayLimits(t *testing.T) {
	for _, c := range []api.Config{
		{Threads: 1, Records: 1, Hazards: 3, Retire: 1, Cache: 0, Slots: 1, Buckets: 1},
		{Threads: 16, Records: 16, Hazards: 8, Retire: 1024, Cache: 64, Slots: 1024, Buckets: 64},
	} {
		words, _ := word.First(c, 0)
		wantRun(t, playOf(t, c), api.Run{Words: words})
		last := c.Threads - 1
		moves := slices.Concat(with(register(last), 2), with(post(last, 3), 6), with(read(last, 2), 4),
			with(unregister(last), c.Hazards))
		r := playOf(t, c, append(moves, slices.Repeat([]api.Move{step(last)}, api.MaxMoves-len(moves))...)...)
		if len(r.Calls) != 4 || r.Calls[2].Answer != value(3) || r.Calls[3].End < 0 {
			t.Errorf("%+v", r.Calls)
		}
	}
}

// P5.4: the machine has c's threads, word.First(c, 0), and these six calls alone.
func TestPlayMachine(t *testing.T) {
	c := configOf(3, 2, 1, 1, 2)
	words, _ := word.First(c, 0)
	idle := []api.Move{register(3), register(-1), step(0), post(0, 0), scan(1), unregister(2), read(0, 0), clearing(0, 0)}
	for op := api.Op(-1); op < 150; op++ {
		if op < api.OpRegister || op > api.OpScan {
			idle = append(idle, api.Move{Op: op})
		}
	}
	wantRun(t, playOf(t, c, idle...), api.Run{Words: words})
	if r := playOf(t, c, register(2), step(2)); len(r.Calls) != 1 || len(r.Trace) != 1 {
		t.Errorf("%+v", r)
	}
}
