package table_test

import (
	"maps"
	"math"
	"slices"
	"testing"

	"reclaim/api"
	"reclaim/hazard"
	"reclaim/machine"
	"reclaim/table"
	"reclaim/word"
)

// ops are the table's calls.
var ops = []api.Op{api.OpAdd, api.OpRemove, api.OpGet}

// P9.1: the calls are these three.
func TestKit(t *testing.T) {
	kit := table.Kit(hazard.New(arenaOf(t, example())))
	if len(kit) != len(ops) {
		t.Errorf("%d calls", len(kit))
	}
	for _, op := range ops {
		if kit[op] == nil {
			t.Errorf("there is no op %d", op)
		}
	}
}

// The section 'Words': a call is refused to a thread that holds no record; nothing is recorded of it.
func TestRefused(t *testing.T) {
	y := yardOf(t, configOf(2, 1, 1, 0, 3, 2))
	refused := func(thread int) {
		t.Helper()
		before := y.m.Run()
		for _, arg := range []int{0, 5, -1, math.MaxInt, math.MinInt} {
			for _, op := range ops {
				if mv := (api.Move{Thread: thread, Op: op, Arg: arg, Data: arg}); y.m.Move(mv) || y.m.Busy(thread) {
					t.Errorf("%+v is not refused", mv)
				}
			}
		}
		wantRun(t, y.m.Run(), before)
	}
	refused(0)
	y.call(t, register(1))
	refused(0)
	y.call(t, register(0)) // there is none left
	refused(0)
	y.calls(t, add(1, 5, 50), unregister(1))
	refused(1)
	y.calls(t, register(0), get(0, 5))
	y.wantAnswer(t, 0, value(50))
}

// In all other cases they begin, whatever stands in what they don't look at.
func TestBegunOtherwise(t *testing.T) {
	for _, n := range []int{0, 1, -1, math.MaxInt, math.MinInt} {
		y := yardOf(t, example())
		y.call(t, register(0))
		for _, c := range []struct {
			op     api.Op
			arg    int
			answer api.Answer
		}{
			{api.OpGet, n, no}, {api.OpRemove, n, no}, {api.OpAdd, n, yes}, {api.OpAdd, n, no}, {api.OpGet, n, value(n)},
			{api.OpAdd, 7, yes}, {api.OpAdd, 8, full}, {api.OpRemove, n, value(n)}, {api.OpRemove, n, no}, {api.OpGet, 7, value(n)},
		} {
			got := y.call(t, api.Move{Op: c.op, Arg: c.arg, Data: n})
			if got.Answer != c.answer || got.Arg != c.arg || got.Data != n {
				t.Errorf("%+v, not %+v", got, c.answer)
			}
		}
		y.wantPairs(t, map[int]int{7: n})
	}
}

// P3: a thread that is busy begins nothing.
func TestBusy(t *testing.T) {
	moves := []api.Move{add(0, 1, 2), remove(0, 1), get(0, 1), scan(0)}
	for _, mv := range moves {
		y := yardOf(t, example())
		y.call(t, register(0))
		y.make(t, mv)
		before := y.m.Run()
		for _, mv := range append(slices.Clone(moves), unregister(0)) {
			if y.m.Move(mv) {
				t.Errorf("%+v is not refused", mv)
			}
		}
		wantRun(t, y.m.Run(), before)
	}
}

// P1: the move that begins a call makes no access, does no local work and changes no state.
func TestBeginningDoesNothing(t *testing.T) {
	y := yardOf(t, configOf(1, 2, 1, 2, 2, 2))
	y.call(t, register(0))
	for _, mv := range []api.Move{
		get(0, 1), remove(0, 1), add(0, 1, 9), add(0, 1, 8), add(0, 2, 7), add(0, 3, 6), get(0, 2),
		remove(0, 1), remove(0, 2), add(0, 4, 5), add(0, 5, 4), remove(0, 4),
	} {
		before, cached, kept := y.m.Run(), y.a.Cached(0), y.List(0)
		y.make(t, mv)
		y.wantOnlyCalls(t, before)
		y.wantList(t, 0, kept...)
		if !slices.Equal(y.a.Cached(0), cached) {
			t.Errorf("%+v changes the cache", mv)
		}
		y.finish(t, 0)
	}
}

// P9.1: the makers go by the thread that they are given, and refuse one that there isn't.
func TestMakersThread(t *testing.T) {
	y := tableOf(t)
	kit := table.Kit(y.Hazards)
	for _, c := range []struct {
		mv   api.Move
		want api.Answer
	}{{add(0, 4, 44), yes}, {get(0, 4), value(44)}, {remove(0, 4), value(44)}, {remove(0, 4), no}} {
		y.begin(t, 1, kit[c.mv.Op](1, c.mv))
		from := y.accesses()
		y.finish(t, 1)
		y.wantAnswer(t, 1, c.want)
		seen := y.m.Run().Trace[from:]
		if last := seen[len(seen)-1]; last.Addr != y.hazardAt(1, 2) {
			t.Errorf("%+v", last)
		}
	}
	y.wantList(t, 1, 0)
	for _, thread := range []int{-1, 2, math.MinInt, math.MaxInt} {
		for op, maker := range kit {
			if maker(thread, api.Move{Op: op}) != nil {
				t.Errorf("op %d of thread %d is not refused", op, thread)
			}
		}
	}
}

// P9.1: two kits over the same hazards are calls of one table.
func TestKitsOfOneTable(t *testing.T) {
	y := tableOf(t, 3)
	y.begin(t, 0, table.Kit(y.Hazards)[api.OpGet](0, get(0, 3)))
	y.finish(t, 0)
	y.wantAnswer(t, 0, value(30))
}

// oddConfigs are configurations that may not be.
func oddConfigs() []api.Config {
	odd := []api.Config{{}}
	for _, spoil := range []func(c *api.Config){
		func(c *api.Config) { c.Threads = 0 },
		func(c *api.Config) { c.Threads = api.MaxThreads + 1 },
		func(c *api.Config) { c.Records = 0 },
		func(c *api.Config) { c.Records = api.MaxRecords + 1 },
		func(c *api.Config) { c.Hazards = api.MinHazards - 1 },
		func(c *api.Config) { c.Hazards = api.MaxHazards + 1 },
		func(c *api.Config) { c.Retire = 0 },
		func(c *api.Config) { c.Retire = api.MaxRetire + 1 },
		func(c *api.Config) { c.Cache = -1 },
		func(c *api.Config) { c.Cache = api.MaxCache + 1 },
		func(c *api.Config) { c.Slots = 0 },
		func(c *api.Config) { c.Slots = api.MaxSlots + 1 },
		func(c *api.Config) { c.Buckets = 0 },
		func(c *api.Config) { c.Buckets = -1 },
		func(c *api.Config) { c.Buckets = math.MinInt },
		func(c *api.Config) { c.Buckets = api.MaxBuckets + 1 },
	} {
		c := example()
		spoil(&c)
		odd = append(odd, c)
	}
	return odd
}

// P9.2 and P8: a configuration that may not be comes ahead of too many moves.
func TestPlayRefuses(t *testing.T) {
	long := make([]api.Move, api.MaxMoves+1)
	for _, c := range oddConfigs() {
		for _, moves := range [][]api.Move{nil, {register(0)}, long} {
			if r, e := table.Play(c, moves); e != api.ErrConfig || !zeroRun(r) {
				t.Errorf("Play(%+v, %d moves) = %d", c, len(moves), e)
			}
		}
	}
	if r, e := table.Play(example(), long); e != api.ErrLong || !zeroRun(r) {
		t.Errorf("Play(%d moves) = %d", len(long), e)
	}
}

func zeroRun(r api.Run) bool {
	return r.Calls == nil && r.Trace == nil && r.Shifts == nil && r.Words == nil
}

// P9.2: no moves, and as many as may be; the smallest configuration and the greatest.
func TestPlayLimits(t *testing.T) {
	for _, c := range []api.Config{
		{Threads: 1, Records: 1, Hazards: 3, Retire: 1, Cache: 0, Slots: 1, Buckets: 1},
		{Threads: 16, Records: 16, Hazards: 8, Retire: 1024, Cache: 64, Slots: 1024, Buckets: 64},
	} {
		words, _ := word.First(c, 0)
		wantRun(t, playOf(t, c), api.Run{Words: words})
		last := c.Threads - 1
		moves := slices.Concat(with(register(last), 2), with(add(last, 63, 8), 11), with(add(last, 4, 9), 30))
		room := api.MaxMoves - len(moves)
		r := playOf(t, c, slices.Concat(moves, slices.Repeat([]api.Move{step(last)}, room-13), with(get(last, 63), 12))...)
		want := []api.Answer{value(0), yes, yes, value(8)}
		if c.Slots == 1 {
			want[2] = full
		}
		for i, a := range want {
			if len(r.Calls) != len(want) || r.Calls[i].Answer != a {
				t.Fatalf("%+v, not %+v", r.Calls, want)
			}
		}
		if r.Calls[3].End != api.MaxMoves-1 {
			t.Errorf("%+v", r.Calls[3])
		}
	}
}

// P9.2: the machine has c's threads, word.First(c, 0), the calls of hazard and these; no others.
func TestPlayMachine(t *testing.T) {
	c := configOf(3, 2, 1, 1, 2, 2)
	words, _ := word.First(c, 0)
	idle := []api.Move{register(3), register(-1), step(0), add(0, 0, 0), remove(1, 0), get(2, 0), get(-1, 0), add(3, 0, 0), scan(0)}
	others := []api.Move{}
	for op := api.Op(-1); op < 150; op++ {
		if (op < api.OpRegister || op > api.OpScan) && op != api.OpStep && !slices.Contains(ops, op) {
			idle = append(idle, api.Move{Op: op})
			others = append(others, api.Move{Thread: 2, Op: op})
		}
	}
	wantRun(t, playOf(t, c, idle...), api.Run{Words: words})
	held := with(register(2), 2)
	wantRun(t, playOf(t, c, slices.Concat(held, others)...), playOf(t, c, held...))
}

// whole makes calls one after the other, with more steps than they take; the rest do nothing.
func whole(moves ...api.Move) []api.Move {
	var script []api.Move
	for _, mv := range moves {
		script = append(script, with(mv, 40)...)
	}
	return script
}

// P9.2: the calls of hazard stand beside those of the table: what the cell has published is none of the
// table's, and both use the slots of one arena.
func TestPlayWithTheCell(t *testing.T) {
	c := configOf(2, 2, 1, 0, 3, 2)
	r := playOf(t, c, whole(
		register(0), register(1), add(0, 1, 11), post(1, 2), add(1, 4, 44), // slots 0, 1 and 2
		add(0, 3, 33),         // none is left
		get(0, 2), read(0, 2), // hazard 2 of record 0 names slot 1
		remove(0, 1), scan(0), // Leave clears it
		post(1, 5), read(1, 1), get(1, 4), remove(1, 4), remove(1, 4), unregister(1), add(0, 3, 33), read(0, 1), clearing(0, 1),
	)...)
	var got []api.Answer
	for _, call := range r.Calls {
		got = append(got, call.Answer)
	}
	want := []api.Answer{value(0), value(1), yes, done, yes, full, no, value(2), value(11), done, done, value(5), value(44), value(44), no, done, yes, value(5), done}
	if !slices.Equal(got, want) {
		t.Errorf("%+v, not\n%+v", got, want)
	}
	if !maps.Equal(pairsOf(c, r.Words), map[int]int{3: 33}) || r.Words[cellAddr] == 0 {
		t.Errorf("the words are %v", r.Words)
	}
}

// A Read's hazard keeps the slot that it names over calls of another thread; a hazard above 2 is none of
// the table's, and stands over the own calls, too.
func TestHazardsOfReads(t *testing.T) {
	c := configOf(2, 2, 1, 0, 3, 2)
	c.Hazards = 4
	y := yardOf(t, c)
	y.calls(t, register(0), register(1), post(0, 9), read(1, 3), add(1, 5, 50), get(1, 5), post(0, 8))
	y.wantState(t, 0, api.StateRetired, 0)
	y.calls(t, remove(1, 5), scan(0))
	y.wantState(t, 0, api.StateRetired, 0)
	y.calls(t, clearing(1, 3), scan(0))
	y.wantState(t, 0, api.StateFree, -1)
}

// P9.2: Play is that machine's run.
func TestPlayIsTheMachines(t *testing.T) {
	c := configOf(2, 2, 1, 1, 3, 2)
	moves := slices.Concat(with(register(0), 2), with(register(1), 3), with(add(0, 5, 50), 11), with(remove(0, 5), 9), with(add(1, 5, 51), 30),
		with(step(0), 30), with(get(1, 5), 30))
	h := hazard.New(arenaOf(t, c))
	words, _ := word.First(c, 0)
	m, _ := machine.New(c.Threads, words, machine.Join(h.Kit(), table.Kit(h)))
	for _, mv := range moves {
		m.Move(mv)
	}
	wantRun(t, playOf(t, c, moves...), m.Run())
}
