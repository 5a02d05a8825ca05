package pool_test

import (
	"math"
	"slices"
	"testing"

	"reclaim/api"
	"reclaim/pool"
	"reclaim/word"
)

// oddConfigs are configurations that may not be.
func oddConfigs() []api.Config {
	odd := []api.Config{{}}
	for _, spoil := range []func(c *api.Config){
		func(c *api.Config) { c.Threads = 0 },
		func(c *api.Config) { c.Threads = api.MaxThreads + 1 },
		func(c *api.Config) { c.Records = 0 },
		func(c *api.Config) { c.Records = api.MaxRecords + 1 },
		func(c *api.Config) { c.Hazards = api.MinHazards - 1 },
		func(c *api.Config) { c.Hazards = api.MaxHazards + 1 },
		func(c *api.Config) { c.Retire = 0 },
		func(c *api.Config) { c.Retire = api.MaxRetire + 1 },
		func(c *api.Config) { c.Cache = -1 },
		func(c *api.Config) { c.Cache = api.MaxCache + 1 },
		func(c *api.Config) { c.Slots = 0 },
		func(c *api.Config) { c.Slots = math.MinInt },
		func(c *api.Config) { c.Slots = api.MaxSlots + 1 },
		func(c *api.Config) { c.Buckets = 0 },
		func(c *api.Config) { c.Buckets = math.MaxInt },
		func(c *api.Config) { c.Buckets = api.MaxBuckets + 1 },
	} {
		c := example()
		spoil(&c)
		odd = append(odd, c)
	}
	return odd
}

// The smallest configuration and the greatest.
func edges() []api.Config {
	return []api.Config{
		{Threads: 1, Records: 1, Hazards: 3, Retire: 1, Cache: 0, Slots: 1, Buckets: 1},
		{Threads: 16, Records: 16, Hazards: 8, Retire: 1024, Cache: 64, Slots: 1024, Buckets: 64},
	}
}

// P10.1: no machine of a configuration that may not be.
func TestNewRefuses(t *testing.T) {
	for _, c := range oddConfigs() {
		if m, e := pool.New(c); m != nil || e != api.ErrConfig {
			t.Errorf("New(%+v) = %v, %d", c, m, e)
		}
	}
}

// P10.1: the words are word.First(c, 1), slot 0 is the queue's, and nothing was done yet.
func TestNew(t *testing.T) {
	for _, c := range append(edges(), example(), configOf(3, 2, 4, 1, 7, 5)) {
		m := machineOf(t, c)
		words, _ := word.First(c, 1)
		wantRun(t, m.Run(), api.Run{Words: words})
		if m.Moves() != 0 {
			t.Errorf("%d moves", m.Moves())
		}
		p := &paper{c, words}
		p.wantLook(t, "the beginning", api.Contents{})
		free := make([]int, 0, c.Slots)
		for slot := 1; slot < c.Slots; slot++ {
			free = append(free, slot)
		}
		p.wantFree(t, "the beginning", free...)
	}
}

// P10.1: c's threads make calls, and no others.
func TestNewThreads(t *testing.T) {
	for threads := 1; threads <= api.MaxThreads; threads++ {
		m := machineOf(t, configOf(threads, 16, 1, 0, 4, 1))
		for thread := -1; thread < threads+2; thread++ {
			if m.Move(move(thread, api.OpTake, 0)) != (thread >= 0 && thread < threads) {
				t.Errorf("%d threads: thread %d", threads, thread)
			}
		}
	}
}

// P10.1: all calls of chapters 4 to 9 begin, and nothing else does: not the machine's own.
func TestNewKnows(t *testing.T) {
	known := slices.Concat(objects...)
	for op := api.Op(-200); op < 200; op++ {
		m := machineOf(t, configOf(1, 1, 1, 0, 4, 2))
		if op != api.OpRegister {
			call(t, m, register(0))
		}
		if op == api.OpGive {
			wantCall(t, m, move(0, api.OpTake, 0), value(1))
		}
		before := m.Run()
		if began := m.Move(move(0, op, 1)); began != slices.Contains(known, op) {
			t.Errorf("op %d: %v", op, began)
		} else if !began {
			wantRun(t, m.Run(), before)
		}
	}
	for _, op := range []api.Op{api.OpLook, api.OpBump, math.MinInt, math.MaxInt} {
		if m := machineOf(t, example()); m.Move(move(0, op, 0)) || len(m.Run().Calls) != 0 {
			t.Errorf("op %d is known", op)
		}
	}
}

// P10.1: they are calls of one arena and of one hazards: a slot that one object has given back is taken by
// another, and a thread holds one record for all of them.
func TestNewIsOverOneArena(t *testing.T) {
	m := machineOf(t, configOf(2, 1, 1, 0, 2, 1)) // one slot beside the queue's
	for _, mv := range []api.Move{move(0, api.OpPush, 1), move(0, api.OpDequeue, 0), move(0, api.OpContains, 1), add(0, 1, 1), move(0, api.OpPost, 1)} {
		if m.Move(mv) {
			t.Errorf("%+v begins without a record", mv)
		}
	}
	wantCall(t, m, register(0), value(0))
	wantCall(t, m, register(1), full)
	puts := []api.Move{move(0, api.OpPost, 8), move(0, api.OpPush, 8), move(0, api.OpEnqueue, 8), move(0, api.OpInsert, 8), add(0, 8, 88), move(1, api.OpTake, 0)}
	all := func(put api.Move) {
		t.Helper()
		for _, other := range puts {
			if got := call(t, m, other); got.Answer != full {
				t.Errorf("behind %+v: %+v", put, got)
			}
		}
	}
	for _, c := range []struct {
		put  api.Move
		puts api.Answer
		out  api.Move
		want api.Answer
	}{
		{move(0, api.OpPush, 8), done, move(0, api.OpPop, 0), value(8)},
		{move(0, api.OpEnqueue, 7), done, move(0, api.OpDequeue, 0), value(7)},
		{move(0, api.OpInsert, 6), yes, move(0, api.OpDelete, 6), yes},
		{add(0, 5, 55), yes, move(0, api.OpRemove, 5), value(55)},
	} {
		wantCall(t, m, c.put, c.puts)
		all(c.put)
		wantCall(t, m, c.out, c.want)
		wantCall(t, m, move(0, api.OpScan, 0), done)
	}
	took := call(t, m, move(0, api.OpTake, 0))
	all(move(0, api.OpTake, 0))
	wantCall(t, m, move(0, api.OpGive, took.Answer.Value), done)
	wantCall(t, m, move(0, api.OpPost, 3), done)
	wantCall(t, m, move(0, api.OpRead, 2), value(3))
	all(move(0, api.OpPost, 3))
}

// P10.1: two machines share nothing: what one does is none of the other's, whichever comes first.
func TestMachinesApart(t *testing.T) {
	c := configOf(2, 2, 2, 1, 6, 2)
	d := dice(5)
	for range 20 {
		one, other := machineOf(t, c), machineOf(t, c)
		left, right := scriptOf(t, &d, c, 400), scriptOf(t, &d, c, 400)
		for i := range left {
			one.Move(left[i])
			other.Move(right[i])
		}
		wantRun(t, one.Run(), playOf(t, c, left...))
		wantRun(t, other.Run(), playOf(t, c, right...))
	}
}

// P10.2 and P8: a configuration that may not be comes ahead of too many moves.
func TestPlayRefuses(t *testing.T) {
	long := make([]api.Move, api.MaxMoves+1)
	for _, c := range oddConfigs() {
		for _, moves := range [][]api.Move{nil, {register(0)}, long} {
			if r, e := pool.Play(c, moves); e != api.ErrConfig || !zeroRun(r) {
				t.Errorf("Play(%+v, %d moves) = %d", c, len(moves), e)
			}
		}
	}
	if r, e := pool.Play(example(), long); e != api.ErrLong || !zeroRun(r) {
		t.Errorf("Play(%d moves) = %d", len(long), e)
	}
}

func zeroRun(r api.Run) bool {
	return r.Calls == nil && r.Trace == nil && r.Shifts == nil && r.Words == nil
}

// P10.2: no moves, and as many as may be.
func TestPlayLimits(t *testing.T) {
	for _, c := range edges() {
		words, _ := word.First(c, 1)
		wantRun(t, playOf(t, c), api.Run{Words: words})
		wantRun(t, playOf(t, c, []api.Move{}...), api.Run{Words: words})
		last := c.Threads - 1
		moves := slices.Concat(with(register(last), 2), with(move(last, api.OpPush, 8), 7), with(add(last, 63, 9), 11))
		idle := slices.Repeat([]api.Move{step(last)}, api.MaxMoves-len(moves)-2)
		r := playOf(t, c, slices.Concat(moves, idle, with(move(last, api.OpClear, 2), 1))...)
		want := []api.Answer{value(0), done, yes, done}
		if c.Slots == 1 {
			want[1], want[2] = full, full
		}
		for i, a := range want {
			if len(r.Calls) != len(want) || r.Calls[i].Answer != a {
				t.Fatalf("%+v, not %+v", r.Calls, want)
			}
		}
		if r.Calls[3].End != api.MaxMoves-1 {
			t.Errorf("%+v", r.Calls[3])
		}
	}
}

// P10.2: Play is the run of New's machine.
func TestPlayIsTheMachines(t *testing.T) {
	eachChance(t, 40, func(c api.Config, moves []api.Move) {
		m := machineOf(t, c)
		for _, mv := range moves {
			m.Move(mv)
		}
		wantRun(t, playOf(t, c, moves...), m.Run())
	})
}

// P5: moves with whatever numbers come to an end, and do no harm.
func TestOddMoves(t *testing.T) {
	numbers := []int{math.MinInt, -1, 0, 1, 2, 3, 1 << 31, 1<<32 + 1, math.MaxInt}
	c := configOf(2, 2, 1, 1, 4, 3)
	m := machineOf(t, c)
	for thread := range 2 {
		call(t, m, register(thread))
	}
	for _, op := range slices.Concat(objects...) {
		if op == api.OpUnregister {
			continue
		}
		for _, n := range numbers {
			for _, thread := range numbers {
				m.Move(api.Move{Thread: thread, Op: op, Arg: n, Data: n})
				if thread == 0 || thread == 1 {
					finish(t, m, thread)
				}
				p := &paper{c, m.Run().Words}
				if _, e := pool.Look(c, p.words); e != api.OK {
					t.Fatalf("op %d, %d: Look = %d", op, n, e)
				}
			}
		}
	}
}
