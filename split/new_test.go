package split_test

import (
	"slices"
	"testing"

	"reclaim/api"
	"reclaim/split"
)

// edges are tables at the ends of their limits, and some between.
func edges() []api.Split {
	return []api.Split{
		{Config: api.Config{Threads: 1, Records: 1, Hazards: 3, Retire: 1, Cache: 0, Slots: 1, Buckets: 1}, Load: 1},
		{Config: api.Config{Threads: 16, Records: 16, Hazards: 8, Retire: 1024, Cache: 64, Slots: 1024, Buckets: 64}, Load: 16},
		{Config: api.Config{Threads: 2, Records: 1, Hazards: 4, Retire: 3, Cache: 2, Slots: 7, Buckets: 6}, Load: 2},
		example(), pair(5, 3, 1),
	}
}

// wrongConfigs are tables whose Config may not be, with Loads that may be and others.
func wrongConfigs() []api.Split {
	var list []api.Split
	for _, change := range []func(c *api.Config, n int){
		func(c *api.Config, n int) { c.Threads = n },
		func(c *api.Config, n int) { c.Records = n },
		func(c *api.Config, n int) { c.Hazards = n },
		func(c *api.Config, n int) { c.Retire = n },
		func(c *api.Config, n int) { c.Slots = n },
		func(c *api.Config, n int) { c.Buckets = n },
		func(c *api.Config, n int) { c.Cache = n - 1 },
	} {
		for _, n := range []int{0, -1, -1<<63 + 1, 1<<63 - 1} {
			for _, load := range []int{1, 0, 17} {
				s := example()
				s.Load = load
				change(&s.Config, n)
				list = append(list, s)
			}
		}
	}
	return append(list, api.Split{}, api.Split{Load: 1})
}

// wrongLoads are tables whose Load alone may not be.
func wrongLoads() []api.Split {
	var list []api.Split
	for _, load := range []int{0, -1, 17, 18, 1 << 32, 1<<32 + 1, -1 << 63, 1<<63 - 1} {
		s := example()
		s.Load = load
		list = append(list, s)
	}
	return list
}

// P23.1: the words are those of the configuration, and behind them count, 0, and size, 1.
func TestWords(t *testing.T) {
	for _, s := range edges() {
		c := s.Config
		want := make([]uint64, 6+c.Buckets+c.Records*(1+c.Hazards)+4*c.Slots+2)
		want[freeAt] = 1
		for slot := range c.Slots - 1 {
			want[spareAt(s, slot)] = uint64(slot + 2)
		}
		want[len(want)-1] = 1
		if got, e := split.Words(s); !slices.Equal(got, want) || e != api.OK {
			t.Errorf("Words(%+v) = %v, %d, not %v", s, got, e, want)
		}
	}
}

// P23.1: a machine of New has these words, and the Config's threads; nothing is used, taken or held.
func TestNew(t *testing.T) {
	for _, s := range edges() {
		y := yardOf(t, s)
		words, _ := split.Words(s)
		if r := y.m.Run(); !sameRun(r, api.Run{Words: words}) {
			t.Errorf("%+v: %+v", s, r)
		}
		wantRun(t, playOf(t, s), y.m.Run())
		for thread := range s.Config.Threads {
			y.make(t, register(thread))
		}
		if y.m.Move(register(s.Config.Threads)) || y.m.Move(register(-1)) {
			t.Errorf("%+v has a thread too many", s)
		}
	}
}

// P23.1: the machine has the calls of hazard and the three, and no others.
func TestOps(t *testing.T) {
	known := []api.Op{api.OpUnregister, api.OpPost, api.OpRead, api.OpClear, api.OpScan, api.OpAdd, api.OpGet, api.OpRemove}
	for op := api.Op(-2); op < 200; op++ {
		y := yardOf(t, example())
		if y.m.Move(api.Move{Op: op}) != (op == api.OpRegister) {
			t.Errorf("op %d of a thread without a record", op)
		}
		y = filled(t, example())
		if y.m.Move(api.Move{Op: op}) != slices.Contains(known, op) {
			t.Errorf("op %d of a thread that holds a record", op)
		}
	}
}

// The calls of hazard are made over the same arena: what is posted has a slot that no key has.
func TestCallsOfHazard(t *testing.T) {
	y := filled(t, pair(3, 4, 1), 1)
	y.calls(t, done, api.Move{Op: api.OpPost, Arg: 7})
	y.calls(t, value(7), api.Move{Thread: 1, Op: api.OpRead, Arg: 2})
	y.calls(t, yes, add(1, 0, 0))
	y.calls(t, full, add(0, 5, 0), add(1, 2, 2))
	y.calls(t, full, api.Move{Op: api.OpPost, Arg: 8})
	y.calls(t, done, api.Move{Thread: 1, Op: api.OpClear, Arg: 2}, api.Move{Op: api.OpScan}, api.Move{Thread: 1, Op: api.OpUnregister})
	y.wantTens(t, 0, 1)
	y.wantHolds(t)
}

// P23.4 to P23.6: a call is refused of a thread that holds no record, and of what is no key; nothing is told of
// it.
func TestRefusals(t *testing.T) {
	s := splitOf(3, 1, 0, 4, 4, 1)
	y := yardOf(t, s)
	y.calls(t, value(0), register(0))
	ahead := y.m.Run()
	for _, op := range ops {
		for _, thread := range []int{1, 2} {
			for _, key := range []int{0, 1, api.MaxSplitKey} {
				y.refuses(t, api.Move{Thread: thread, Op: op, Arg: key})
			}
		}
		for _, key := range []int{-1, -2, api.MaxSplitKey + 1, 1 << 31, 1 << 32, -1 << 63, 1<<63 - 1} {
			y.refuses(t, api.Move{Op: op, Arg: key})
		}
	}
	wantRun(t, y.m.Run(), ahead)
	for _, key := range []int{0, api.MaxSplitKey} {
		y.calls(t, no, get(0, key), remove(0, key))
		y.calls(t, yes, add(0, key, key))
		y.calls(t, value(key), get(0, key), remove(0, key))
	}
	y.calls(t, done, api.Move{Op: api.OpUnregister})
	y.refuses(t, add(0, 1, 1))
}

func (y *yard) refuses(t *testing.T, mv api.Move) {
	t.Helper()
	if y.m.Move(mv) || y.m.Busy(mv.Thread) || y.m.Move(step(mv.Thread)) {
		t.Errorf("%+v is begun", mv)
	}
}

// wantErr asks that all calls of a table answer an error, and all else zero.
func wantErr(t *testing.T, s api.Split, want api.Errno) {
	t.Helper()
	if words, e := split.Words(s); words != nil || e != want {
		t.Errorf("Words(%+v) = %v, %d", s, words, e)
	}
	if m, e := split.New(s); m != nil || e != want {
		t.Errorf("New(%+v) = %v, %d", s, m, e)
	}
	for _, moves := range [][]api.Move{nil, {add(0, 1, 1), step(0)}, make([]api.Move, api.MaxMoves+1)} {
		if r, e := split.Play(s, moves); !sameRun(r, api.Run{}) || e != want {
			t.Errorf("Play(%+v) = %+v, %d", s, r, e)
		}
	}
	good := y47(t)
	odd := slices.Clone(good)
	odd[47] = 3
	for _, words := range [][]uint64{nil, good, odd, good[1:], make([]uint64, 9000)} {
		if list, e := split.Look(s, words); list != nil || e != want {
			t.Errorf("Look(%+v) = %v, %d", s, list, e)
		}
		if list, e := split.Buckets(s, words); list != nil || e != want {
			t.Errorf("Buckets(%+v) = %v, %d", s, list, e)
		}
		for _, calls := range [][]api.Call{nil, {{Op: api.OpAdd, End: 3, Point: -1}}} {
			if so, e := split.Holds(s, api.Run{Words: words, Calls: calls}); so || e != want {
				t.Errorf("Holds(%+v) = %v, %d", s, so, e)
			}
		}
	}
}

// y47 are the words of the example with keys and a bucket in it: their size is at address 47.
func y47(t *testing.T) []uint64 {
	t.Helper()
	y := filled(t, example(), 3, 1)
	y.calls(t, value(30), get(0, 3))
	return y.m.Run().Words
}

// ErrConfig comes ahead of all others, at every call of a table.
func TestErrConfig(t *testing.T) {
	for _, s := range wrongConfigs() {
		wantErr(t, s, api.ErrConfig)
	}
}

// ErrSplit comes next.
func TestErrSplit(t *testing.T) {
	for _, s := range wrongLoads() {
		wantErr(t, s, api.ErrSplit)
	}
	for load := 1; load <= 16; load++ {
		s := example()
		s.Load = load
		if _, e := split.Words(s); e != api.OK {
			t.Errorf("Load %d: %d", load, e)
		}
	}
}

// P23.1: MaxMoves moves are played, one more is refused; also if none of them does anything.
func TestErrLong(t *testing.T) {
	s := example()
	for _, mv := range []api.Move{step(0), add(0, 1, 1), register(0), step(7)} {
		moves := slices.Repeat([]api.Move{mv}, api.MaxMoves+1)
		if r, e := split.Play(s, moves); !sameRun(r, api.Run{}) || e != api.ErrLong {
			t.Errorf("Play of %d moves = %d", len(moves), e)
		}
		if _, e := split.Play(s, moves[:api.MaxMoves]); e != api.OK {
			t.Errorf("Play of %d moves = %d", api.MaxMoves, e)
		}
	}
	moves := []api.Move{register(0), step(0), step(0)}
	moves = append(moves, slices.Repeat([]api.Move{step(0)}, api.MaxMoves-19)...)
	moves = append(append(moves, add(0, 3, 30)), slices.Repeat([]api.Move{step(0)}, 15)...)
	r := playOf(t, s, moves...)
	if len(r.Calls) != 2 || r.Calls[1].End != api.MaxMoves-1 || r.Calls[1].Answer != yes {
		t.Errorf("%+v", r.Calls)
	}
}

// A machine takes no more than MaxMoves moves.
func TestMachineTakesNoMore(t *testing.T) {
	y := yardOf(t, example())
	for range api.MaxMoves - 1 {
		y.m.Move(step(0))
	}
	y.make(t, register(0))
	if y.m.Move(step(0)) || y.m.Moves() != api.MaxMoves {
		t.Errorf("%d moves", y.m.Moves())
	}
}

// P23.1: Play makes the moves on a machine of New; two of them have nothing to do with each other.
func TestPlayIsNew(t *testing.T) {
	eachChance(t, 60, func(s api.Split, moves []api.Move) {
		one, other := yardOf(t, s), yardOf(t, s)
		back := slices.Clone(moves)
		slices.Reverse(back[len(back)/3:])
		for i, mv := range moves {
			one.m.Move(mv)
			other.m.Move(back[i])
		}
		wantRun(t, one.m.Run(), playOf(t, s, moves...))
		wantRun(t, other.m.Run(), playOf(t, s, back...))
	})
}

// The greatest table: more keys than its buckets' loads, so that all buckets come into use, and each is planted.
func TestGreatTable(t *testing.T) {
	s := splitOf(1, 1, 0, api.MaxSlots, api.MaxBuckets, api.MaxLoad)
	y := filled(t, s)
	var keys []int
	for i := range api.MaxSlots - api.MaxBuckets + 1 {
		key := i * 7919 % 100003 * 37 % (1 << 30)
		keys = append(keys, key)
		y.make(t, add(0, key, 10*key))
		for y.m.Busy(0) {
			y.m.Move(step(0))
		}
		if y.m.Moves() > api.MaxMoves-2000 {
			break
		}
	}
	slices.Sort(keys)
	y.wantTens(t, keys...)
	y.wantHolds(t)
	if len(keys) <= 16*32 && y.word(sizeAt(s)) < 32 {
		t.Errorf("%d keys, size %d", len(keys), y.word(sizeAt(s)))
	}
}
