package queue_test

import (
	"math"
	"slices"
	"testing"

	"reclaim/api"
	"reclaim/hazard"
	"reclaim/queue"
	"reclaim/word"
)

// P7.1: the calls are these two.
func TestKit(t *testing.T) {
	kit := queue.Kit(hazard.New(arenaOf(t, example())))
	if len(kit) != 2 || kit[api.OpEnqueue] == nil || kit[api.OpDequeue] == nil {
		t.Errorf("%d calls", len(kit))
	}
}

// The section 'Words': both calls are refused to a thread that holds no record; nothing is
// recorded of them.
func TestRefused(t *testing.T) {
	y := yardOf(t, configOf(2, 1, 1, 0, 3))
	refused := func(thread int) {
		t.Helper()
		before := y.m.Run()
		for _, arg := range []int{0, 1, -1, math.MaxInt, math.MinInt} {
			for _, op := range []api.Op{api.OpEnqueue, api.OpDequeue} {
				if mv := (api.Move{Thread: thread, Op: op, Arg: arg, Data: arg}); y.m.Move(mv) || y.m.Busy(thread) {
					t.Errorf("%+v is not refused", mv)
				}
			}
		}
		wantRun(t, y.m.Run(), before)
	}
	refused(0)
	y.call(t, register(1))
	refused(0)
	y.call(t, register(0)) // there is none left
	refused(0)
	y.calls(t, enqueue(1, 5), unregister(1))
	refused(1)
	y.calls(t, register(0), dequeue(0))
	if got := y.last(0); got.Answer != value(5) {
		t.Errorf("%+v", got)
	}
}

// The section 'Words': in all other cases they begin, whatever stands in what they don't look at.
func TestBegunOtherwise(t *testing.T) {
	for _, n := range []int{0, 1, -1, math.MaxInt, math.MinInt} {
		y := yardOf(t, example())
		y.call(t, register(0))
		for _, c := range []struct {
			move   api.Move
			answer api.Answer
		}{
			{api.Move{Op: api.OpDequeue, Arg: n, Data: n}, empty},
			{api.Move{Op: api.OpEnqueue, Arg: n, Data: n}, done},
			{api.Move{Op: api.OpEnqueue, Arg: 7, Data: n}, done},
			{api.Move{Op: api.OpEnqueue, Arg: n, Data: n}, full},
			{api.Move{Op: api.OpDequeue, Arg: n, Data: n}, value(n)},
			{api.Move{Op: api.OpDequeue, Arg: n, Data: n}, value(7)},
		} {
			if got := y.call(t, c.move); got.Answer != c.answer || got.Arg != c.move.Arg || got.Data != n {
				t.Errorf("%+v, not %+v", got, c.answer)
			}
		}
	}
}

// P3: a thread that is busy begins nothing.
func TestBusy(t *testing.T) {
	for _, mv := range []api.Move{enqueue(0, 1), dequeue(0), scan(0)} {
		y := yardOf(t, example())
		y.call(t, register(0))
		y.make(t, mv)
		before := y.m.Run()
		for _, mv := range []api.Move{enqueue(0, 1), dequeue(0), scan(0), unregister(0)} {
			if y.m.Move(mv) {
				t.Errorf("%+v is not refused", mv)
			}
		}
		wantRun(t, y.m.Run(), before)
	}
}

// P1: the move that begins a call makes no access, does no local work and changes no state.
func TestBeginningDoesNothing(t *testing.T) {
	y := yardOf(t, configOf(1, 2, 1, 2, 3))
	y.call(t, register(0))
	for _, mv := range []api.Move{
		dequeue(0), enqueue(0, 1), dequeue(0), enqueue(0, 2), enqueue(0, 3), enqueue(0, 4), enqueue(0, 5), dequeue(0), dequeue(0), dequeue(0), enqueue(0, 6),
	} {
		before, cached, list := y.m.Run(), y.a.Cached(0), y.List(0)
		y.make(t, mv)
		y.wantOnlyCalls(t, before)
		y.wantList(t, 0, list...)
		if !slices.Equal(y.a.Cached(0), cached) {
			t.Errorf("%+v changes the cache", mv)
		}
		y.finish(t, 0)
	}
}

// P7.1: the makers go by the thread that they are given, and refuse one that there isn't.
func TestMakersThread(t *testing.T) {
	y := pair(t)
	kit := queue.Kit(y.Hazards)
	y.begin(t, 1, kit[api.OpEnqueue](1, enqueue(0, 4)))
	y.finish(t, 1)
	y.begin(t, 1, kit[api.OpDequeue](1, dequeue(0)))
	from := y.accesses()
	y.steps(t, 1, 2)
	y.wantSeen(t, from, load(1, headAddr, link(0)), store(1, y.hazardAt(1, 0), link(0)))
	y.finish(t, 1)
	y.wantList(t, 1, 0)
	for _, thread := range []int{-1, 2, math.MinInt, math.MaxInt} {
		for op, maker := range kit {
			if maker(thread, api.Move{Op: op}) != nil {
				t.Errorf("op %d of thread %d is not refused", op, thread)
			}
		}
	}
}

// P7.1: two kits over the same hazards are calls of one queue.
func TestKitsOfOneQueue(t *testing.T) {
	y := yardOf(t, example())
	y.calls(t, register(0), enqueue(0, 3))
	y.begin(t, 0, queue.Kit(y.Hazards)[api.OpDequeue](0, dequeue(0)))
	y.finish(t, 0)
	y.wantAnswer(t, 0, value(3))
}

// oddConfigs are configurations that may not be.
func oddConfigs() []api.Config {
	list := []api.Config{{}}
	for _, spoil := range []func(c *api.Config){
		func(c *api.Config) { c.Threads = 0 },
		func(c *api.Config) { c.Threads = api.MaxThreads + 1 },
		func(c *api.Config) { c.Records = 0 },
		func(c *api.Config) { c.Records = api.MaxRecords + 1 },
		func(c *api.Config) { c.Hazards = api.MinHazards - 1 },
		func(c *api.Config) { c.Hazards = api.MaxHazards + 1 },
		func(c *api.Config) { c.Retire = 0 },
		func(c *api.Config) { c.Retire = api.MaxRetire + 1 },
		func(c *api.Config) { c.Cache = -1 },
		func(c *api.Config) { c.Cache = api.MaxCache + 1 },
		func(c *api.Config) { c.Slots = 0 },
		func(c *api.Config) { c.Slots = api.MaxSlots + 1 },
		func(c *api.Config) { c.Buckets = 0 },
		func(c *api.Config) { c.Buckets = api.MaxBuckets + 1 },
	} {
		c := example()
		spoil(&c)
		list = append(list, c)
	}
	return list
}

// P7.2 and P8: a configuration that may not be comes ahead of too many moves.
func TestPlayRefuses(t *testing.T) {
	long := make([]api.Move, api.MaxMoves+1)
	for _, c := range oddConfigs() {
		for _, moves := range [][]api.Move{nil, {register(0)}, long} {
			if r, e := queue.Play(c, moves); e != api.ErrConfig || !zeroRun(r) {
				t.Errorf("Play(%+v, %d moves) = %d", c, len(moves), e)
			}
		}
	}
	if r, e := queue.Play(example(), long); e != api.ErrLong || !zeroRun(r) {
		t.Errorf("Play(%d moves) = %d", len(long), e)
	}
}

func zeroRun(r api.Run) bool {
	return r.Calls == nil && r.Trace == nil && r.Shifts == nil && r.Words == nil
}

// P7.2: no moves, and as many as may be; the smallest configuration and the greatest.
func TestPlayLimits(t *testing.T) {
	for _, c := range []api.Config{
		{Threads: 1, Records: 1, Hazards: 3, Retire: 1, Cache: 0, Slots: 1, Buckets: 1},
		{Threads: 16, Records: 16, Hazards: 8, Retire: 1024, Cache: 64, Slots: 1024, Buckets: 64},
	} {
		words, _ := word.First(c, 1)
		wantRun(t, playOf(t, c), api.Run{Words: words})
		last := c.Threads - 1
		moves := slices.Concat(with(register(last), 2), with(enqueue(last, 3), 12), with(dequeue(last), 17))
		room := api.MaxMoves - len(moves)
		r := playOf(t, c, slices.Concat(moves, slices.Repeat([]api.Move{step(last)}, room-8), with(dequeue(last), 7))...)
		want := []api.Answer{value(0), done, value(3), empty}
		if c.Slots == 1 {
			want = []api.Answer{value(0), full, empty, empty}
		}
		for i, a := range want {
			if len(r.Calls) != len(want) || r.Calls[i].Answer != a {
				t.Fatalf("%+v, not %+v", r.Calls, want)
			}
		}
		if r.Calls[3].End != api.MaxMoves-1 {
			t.Errorf("%+v", r.Calls[3])
		}
	}
}

// P7.2: the machine has c's threads, word.First(c, 1), the calls of hazard and these; no others.
func TestPlayMachine(t *testing.T) {
	c := configOf(3, 2, 1, 1, 2)
	words, _ := word.First(c, 1)
	idle := []api.Move{register(3), register(-1), step(0), enqueue(0, 0), dequeue(1), enqueue(2, 0), dequeue(-1), dequeue(3), scan(0)}
	for op := api.Op(-1); op < 150; op++ {
		if (op < api.OpRegister || op > api.OpScan) && op != api.OpEnqueue && op != api.OpDequeue {
			idle = append(idle, api.Move{Op: op})
		}
	}
	wantRun(t, playOf(t, c, idle...), api.Run{Words: words})
	held := with(register(2), 2)
	wantRun(t, playOf(t, c, slices.Concat(held, []api.Move{{Thread: 2, Op: api.OpTake}, {Thread: 2, Op: api.OpGive}, {Thread: 2, Op: api.OpFlush},
		{Thread: 2, Op: api.OpPush}, {Thread: 2, Op: api.OpInsert}, {Thread: 2, Op: api.OpAdd}, {Thread: 2, Op: api.OpLook}})...),
		playOf(t, c, held...))
}

// P7.2: the calls of hazard stand beside those of the queue: what the cell has published is none of
// the queue's, and both use the slots of one arena.
func TestPlayWithTheCell(t *testing.T) {
	c := configOf(2, 2, 1, 0, 4)
	whole := func(moves ...api.Move) []api.Move {
		var script []api.Move
		for _, mv := range moves {
			script = append(script, with(mv, 30)...) // more than it takes; the rest do nothing
		}
		return script
	}
	r := playOf(t, c, whole(
		register(0), register(1), enqueue(0, 1), post(1, 2), enqueue(1, 3), // slots 1, 2 and 3
		enqueue(0, 4),          // none is left
		read(0, 0), dequeue(0), // the dequeue's hazard 0 is the read's
		post(0, 5), read(1, 2), dequeue(1), dequeue(1), scan(1), unregister(1),
	)...)
	var got []api.Answer
	for _, call := range r.Calls {
		got = append(got, call.Answer)
	}
	want := []api.Answer{value(0), value(1), done, done, done, full, value(2), value(1), done, value(5), value(3), empty, done, done}
	if !slices.Equal(got, want) {
		t.Errorf("%+v, not\n%+v", got, want)
	}
	if len(valuesOf(c, r.Words)) != 0 || r.Words[1] == 0 {
		t.Errorf("the words are %v", r.Words)
	}
}
