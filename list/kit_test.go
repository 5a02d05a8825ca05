package list_test

import (
	"math"
	"slices"
	"testing"

	"reclaim/api"
	"reclaim/hazard"
	"reclaim/list"
	"reclaim/machine"
	"reclaim/word"
)

// ops are the list's calls.
var ops = []api.Op{api.OpInsert, api.OpDelete, api.OpContains}

// P8.8: the calls are these three.
func TestKit(t *testing.T) {
	kit := list.Kit(hazard.New(arenaOf(t, example())))
	if len(kit) != len(ops) {
		t.Errorf("%d calls", len(kit))
	}
	for _, op := range ops {
		if kit[op] == nil {
			t.Errorf("there is no op %d", op)
		}
	}
}

// The section 'Promises: the calls': all are refused to a thread that holds no record; nothing is
// recorded of them.
func TestRefused(t *testing.T) {
	y := yardOf(t, configOf(2, 1, 1, 0, 3))
	refused := func(thread int) {
		t.Helper()
		before := y.m.Run()
		for _, arg := range []int{0, 5, -1, math.MaxInt, math.MinInt} {
			for _, op := range ops {
				if mv := (api.Move{Thread: thread, Op: op, Arg: arg, Data: arg}); y.m.Move(mv) || y.m.Busy(thread) {
					t.Errorf("%+v is not refused", mv)
				}
			}
		}
		wantRun(t, y.m.Run(), before)
	}
	refused(0)
	y.call(t, register(1))
	refused(0)
	y.call(t, register(0)) // there is none left
	refused(0)
	y.calls(t, insert(1, 5), unregister(1))
	refused(1)
	y.calls(t, register(0), contains(0, 5))
	y.wantAnswer(t, 0, yes)
}

// In all other cases they begin, whatever stands in what they don't look at.
func TestBegunOtherwise(t *testing.T) {
	for _, n := range []int{0, 1, -1, math.MaxInt, math.MinInt} {
		y := yardOf(t, example())
		y.call(t, register(0))
		for _, c := range []struct {
			op     api.Op
			arg    int
			answer api.Answer
		}{
			{api.OpContains, n, no}, {api.OpDelete, n, no}, {api.OpInsert, n, yes}, {api.OpInsert, n, no}, {api.OpContains, n, yes},
			{api.OpInsert, 7, yes}, {api.OpInsert, 8, full}, {api.OpDelete, n, yes}, {api.OpDelete, n, no}, {api.OpContains, 7, yes},
		} {
			got := y.call(t, api.Move{Op: c.op, Arg: c.arg, Data: n})
			if got.Answer != c.answer || got.Arg != c.arg || got.Data != n {
				t.Errorf("%+v, not %+v", got, c.answer)
			}
		}
		y.wantKeys(t, 7)
	}
}

// P3: a thread that is busy begins nothing.
func TestBusy(t *testing.T) {
	for _, mv := range []api.Move{insert(0, 1), remove(0, 1), contains(0, 1), scan(0)} {
		y := yardOf(t, example())
		y.call(t, register(0))
		y.make(t, mv)
		before := y.m.Run()
		for _, mv := range []api.Move{insert(0, 1), remove(0, 1), contains(0, 1), scan(0), unregister(0)} {
			if y.m.Move(mv) {
				t.Errorf("%+v is not refused", mv)
			}
		}
		wantRun(t, y.m.Run(), before)
	}
}

// P1: the move that begins a call makes no access, does no local work and changes no state.
func TestBeginningDoesNothing(t *testing.T) {
	y := yardOf(t, configOf(1, 2, 1, 2, 2))
	y.call(t, register(0))
	for _, mv := range []api.Move{
		contains(0, 1), remove(0, 1), insert(0, 1), insert(0, 1), insert(0, 2), insert(0, 3), contains(0, 2),
		remove(0, 1), remove(0, 2), insert(0, 4), insert(0, 5), remove(0, 4),
	} {
		before, cached, kept := y.m.Run(), y.a.Cached(0), y.List(0)
		y.make(t, mv)
		y.wantOnlyCalls(t, before)
		y.wantList(t, 0, kept...)
		if !slices.Equal(y.a.Cached(0), cached) {
			t.Errorf("%+v changes the cache", mv)
		}
		y.finish(t, 0)
	}
}

// P8.8: the makers go by the thread that they are given, and refuse one that there isn't.
func TestMakersThread(t *testing.T) {
	y := listOf(t)
	kit := list.Kit(y.Hazards)
	for _, mv := range []api.Move{insert(0, 4), contains(0, 4), remove(0, 4)} {
		y.begin(t, 1, kit[mv.Op](1, mv))
		from := y.accesses()
		y.finish(t, 1)
		y.wantAnswer(t, 1, yes)
		seen := y.m.Run().Trace[from:]
		if last := seen[len(seen)-1]; last.Addr != y.hazardAt(1, 2) {
			t.Errorf("%+v", last)
		}
	}
	y.wantList(t, 1, 0)
	for _, thread := range []int{-1, 2, math.MinInt, math.MaxInt} {
		for op, maker := range kit {
			if maker(thread, api.Move{Op: op}) != nil {
				t.Errorf("op %d of thread %d is not refused", op, thread)
			}
		}
	}
}

// P8.8: two kits over the same hazards are calls of one list.
func TestKitsOfOneList(t *testing.T) {
	y := listOf(t, 3)
	y.begin(t, 0, list.Kit(y.Hazards)[api.OpContains](0, contains(0, 3)))
	y.finish(t, 0)
	y.wantAnswer(t, 0, yes)
}

// oddConfigs are configurations that may not be.
func oddConfigs() []api.Config {
	list := []api.Config{{}}
	for _, spoil := range []func(c *api.Config){
		func(c *api.Config) { c.Threads = 0 },
		func(c *api.Config) { c.Threads = api.MaxThreads + 1 },
		func(c *api.Config) { c.Records = 0 },
		func(c *api.Config) { c.Records = api.MaxRecords + 1 },
		func(c *api.Config) { c.Hazards = api.MinHazards - 1 },
		func(c *api.Config) { c.Hazards = api.MaxHazards + 1 },
		func(c *api.Config) { c.Retire = 0 },
		func(c *api.Config) { c.Retire = api.MaxRetire + 1 },
		func(c *api.Config) { c.Cache = -1 },
		func(c *api.Config) { c.Cache = api.MaxCache + 1 },
		func(c *api.Config) { c.Slots = 0 },
		func(c *api.Config) { c.Slots = api.MaxSlots + 1 },
		func(c *api.Config) { c.Buckets = 0 },
		func(c *api.Config) { c.Buckets = api.MaxBuckets + 1 },
	} {
		c := example()
		spoil(&c)
		list = append(list, c)
	}
	return list
}

// P8.8 and P8: a configuration that may not be comes ahead of too many moves.
func TestPlayRefuses(t *testing.T) {
	long := make([]api.Move, api.MaxMoves+1)
	for _, c := range oddConfigs() {
		for _, moves := range [][]api.Move{nil, {register(0)}, long} {
			if r, e := list.Play(c, moves); e != api.ErrConfig || !zeroRun(r) {
				t.Errorf("Play(%+v, %d moves) = %d", c, len(moves), e)
			}
		}
	}
	if r, e := list.Play(example(), long); e != api.ErrLong || !zeroRun(r) {
		t.Errorf("Play(%d moves) = %d", len(long), e)
	}
}

func zeroRun(r api.Run) bool {
	return r.Calls == nil && r.Trace == nil && r.Shifts == nil && r.Words == nil
}

// P8.8: no moves, and as many as may be; the smallest configuration and the greatest.
func TestPlayLimits(t *testing.T) {
	for _, c := range []api.Config{
		{Threads: 1, Records: 1, Hazards: 3, Retire: 1, Cache: 0, Slots: 1, Buckets: 1},
		{Threads: 16, Records: 16, Hazards: 8, Retire: 1024, Cache: 64, Slots: 1024, Buckets: 64},
	} {
		words, _ := word.First(c, 0)
		wantRun(t, playOf(t, c), api.Run{Words: words})
		last := c.Threads - 1
		moves := slices.Concat(with(register(last), 2), with(insert(last, 3), 11), with(insert(last, 4), 30))
		room := api.MaxMoves - len(moves)
		r := playOf(t, c, slices.Concat(moves, slices.Repeat([]api.Move{step(last)}, room-12), with(contains(last, 3), 11))...)
		want := []api.Answer{value(0), yes, yes, yes}
		if c.Slots == 1 {
			want[2] = full
		}
		for i, a := range want {
			if len(r.Calls) != len(want) || r.Calls[i].Answer != a {
				t.Fatalf("%+v, not %+v", r.Calls, want)
			}
		}
		if r.Calls[3].End != api.MaxMoves-1 {
			t.Errorf("%+v", r.Calls[3])
		}
	}
}

// P8.8: the machine has c's threads, word.First(c, 0), the calls of hazard and these; no others.
func TestPlayMachine(t *testing.T) {
	c := configOf(3, 2, 1, 1, 2)
	words, _ := word.First(c, 0)
	idle := []api.Move{register(3), register(-1), step(0), insert(0, 0), remove(1, 0), contains(2, 0), contains(-1, 0), insert(3, 0), scan(0)}
	for op := api.Op(-1); op < 150; op++ {
		if (op < api.OpRegister || op > api.OpScan) && !slices.Contains(ops, op) {
			idle = append(idle, api.Move{Op: op})
		}
	}
	wantRun(t, playOf(t, c, idle...), api.Run{Words: words})
	held := with(register(2), 2)
	wantRun(t, playOf(t, c, slices.Concat(held, []api.Move{{Thread: 2, Op: api.OpTake}, {Thread: 2, Op: api.OpGive}, {Thread: 2, Op: api.OpFlush},
		{Thread: 2, Op: api.OpPush}, {Thread: 2, Op: api.OpEnqueue}, {Thread: 2, Op: api.OpAdd}, {Thread: 2, Op: api.OpLook}})...),
		playOf(t, c, held...))
}

// P8.8: the calls of hazard stand beside those of the list: what the cell has published is none of the
// list's, and both use the slots of one arena.
func TestPlayWithTheCell(t *testing.T) {
	c := configOf(2, 2, 1, 0, 3)
	whole := func(moves ...api.Move) []api.Move {
		var script []api.Move
		for _, mv := range moves {
			script = append(script, with(mv, 40)...) // more than it takes; the rest do nothing
		}
		return script
	}
	r := playOf(t, c, whole(
		register(0), register(1), insert(0, 1), post(1, 2), insert(1, 3), // slots 0, 1 and 2
		insert(0, 4),               // none is left
		contains(0, 2), read(0, 2), // hazard 2 of record 0 names slot 1
		remove(0, 1), scan(0), // Leave clears it
		post(1, 5), read(1, 1), contains(1, 3), remove(1, 3), remove(1, 3), unregister(1), insert(0, 3),
	)...)
	var got []api.Answer
	for _, call := range r.Calls {
		got = append(got, call.Answer)
	}
	want := []api.Answer{value(0), value(1), yes, done, yes, full, no, value(2), yes, done, done, value(5), yes, yes, no, done, yes}
	if !slices.Equal(got, want) {
		t.Errorf("%+v, not\n%+v", got, want)
	}
	if !slices.Equal(keysOf(c, r.Words), []int{3}) || r.Words[1] == 0 {
		t.Errorf("the words are %v", r.Words)
	}
}

// A Read's hazard keeps the slot that it names over calls of another thread; a hazard above 2 is none of
// the list's, and stands over the own calls, too.
func TestHazardsOfReads(t *testing.T) {
	c := configOf(2, 2, 1, 0, 3)
	c.Hazards = 4
	y := yardOf(t, c)
	y.calls(t, register(0), register(1), post(0, 9), read(1, 3), insert(1, 5), contains(1, 5), post(0, 8))
	y.wantState(t, 0, api.StateRetired, 0)
	y.calls(t, remove(1, 5), scan(0))
	y.wantState(t, 0, api.StateRetired, 0)
	y.calls(t, clearing(1, 3), scan(0))
	y.wantState(t, 0, api.StateFree, -1)
}

// P8.8: Play is that machine's run.
func TestPlayIsTheMachines(t *testing.T) {
	c := configOf(2, 2, 1, 1, 3)
	moves := slices.Concat(with(register(0), 2), with(register(1), 3), with(insert(0, 5), 11), with(remove(0, 5), 9), with(insert(1, 5), 30), with(step(0), 30))
	h := hazard.New(arenaOf(t, c))
	words, _ := word.First(c, 0)
	m, _ := machine.New(c.Threads, words, machine.Join(h.Kit(), list.Kit(h)))
	for _, mv := range moves {
		m.Move(mv)
	}
	wantRun(t, playOf(t, c, moves...), m.Run())
}
