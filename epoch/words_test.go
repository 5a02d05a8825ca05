package epoch_test

import (
	"slices"
	"testing"

	"reclaim/api"
	"reclaim/epoch"
	"reclaim/word"
)

// edges are configurations at the ends of their limits, and some between.
func edges() []api.Config {
	least := api.Config{Threads: 1, Records: 1, Hazards: api.MinHazards, Retire: 1, Cache: 0, Slots: 1, Buckets: 1}
	most := api.Config{
		Threads: api.MaxThreads, Records: api.MaxRecords, Hazards: api.MaxHazards, Retire: api.MaxRetire,
		Cache: api.MaxCache, Slots: api.MaxSlots, Buckets: api.MaxBuckets,
	}
	mixed := api.Config{Threads: 3, Records: 2, Hazards: 4, Retire: 5, Cache: 1, Slots: 6, Buckets: 7}
	return []api.Config{least, most, mixed, example()}
}

// wrong are configurations with a single number out of its limits.
func wrong() []api.Config {
	list := []api.Config{{}}
	for _, set := range []struct {
		most  int
		least int
		field func(c *api.Config) *int
	}{
		{api.MaxThreads, 1, func(c *api.Config) *int { return &c.Threads }},
		{api.MaxRecords, 1, func(c *api.Config) *int { return &c.Records }},
		{api.MaxHazards, api.MinHazards, func(c *api.Config) *int { return &c.Hazards }},
		{api.MaxRetire, 1, func(c *api.Config) *int { return &c.Retire }},
		{api.MaxCache, 0, func(c *api.Config) *int { return &c.Cache }},
		{api.MaxSlots, 1, func(c *api.Config) *int { return &c.Slots }},
		{api.MaxBuckets, 1, func(c *api.Config) *int { return &c.Buckets }},
	} {
		for _, n := range []int{set.least - 1, set.most + 1, -1 << 63, 1<<63 - 1} {
			c := example()
			*set.field(&c) = n
			list = append(list, c)
		}
	}
	return list
}

// P20.1: the memory at the beginning is that of chapter 1, the epoch and the local words, all 0.
func TestWords(t *testing.T) {
	for _, c := range edges() {
		words, e := epoch.Words(c)
		want, _ := word.First(c, 0)
		if e != api.OK || len(words) != len(want)+1+c.Threads {
			t.Fatalf("Words(%+v) has %d words, %d", c, len(words), e)
		}
		if !slices.Equal(words[:len(want)], want) {
			t.Errorf("Words(%+v) does not begin as First", c)
		}
		if slices.Max(words[len(want):]) != 0 {
			t.Errorf("Words(%+v) ends with %v", c, words[len(want):])
		}
		if r := playOf(t, c); !slices.Equal(r.Words, words) {
			t.Errorf("Play(%+v) without moves has other words than Words", c)
		}
	}
}

// P20.1: the address of each thread's local word, of -1 that of the epoch; ErrRange on both sides.
func TestLocal(t *testing.T) {
	for _, c := range edges() {
		for thread := -1; thread < c.Threads; thread++ {
			if addr, e := epoch.Local(c, thread); addr != localAt(c, thread) || e != api.OK {
				t.Errorf("Local(%+v, %d) = %d, %d, not %d", c, thread, addr, e, localAt(c, thread))
			}
		}
		for _, thread := range []int{-2, -3, c.Threads, c.Threads + 1, -1 << 63, 1<<63 - 1} {
			if addr, e := epoch.Local(c, thread); addr != 0 || e != api.ErrRange {
				t.Errorf("Local(%+v, %d) = %d, %d", c, thread, addr, e)
			}
		}
	}
}

// The address is that of the word which the thread's pin stores.
func TestLocalIsWhatPinStores(t *testing.T) {
	for _, c := range edges() {
		first, _ := epoch.Words(c)
		for thread := range c.Threads {
			y := yardOf(t, c)
			y.calls(t, done, pin(thread))
			addr, _ := epoch.Local(c, thread)
			for other, w := range y.m.Run().Words {
				if (w != first[other]) != (other == addr) {
					t.Fatalf("%+v: the pin of thread %d has written word %d", c, thread, other)
				}
			}
		}
	}
}

// ErrConfig comes ahead of all others, and all else is zero beside it.
func TestErrConfig(t *testing.T) {
	run := api.Run{Calls: []api.Call{{Op: api.OpDraw, End: 5}}, Words: make([]uint64, 3)}
	for _, c := range wrong() {
		if words, e := epoch.Words(c); words != nil || e != api.ErrConfig {
			t.Errorf("Words(%+v) = %v, %d", c, words, e)
		}
		for _, thread := range []int{-2, -1, 0, 1 << 62} {
			if addr, e := epoch.Local(c, thread); addr != 0 || e != api.ErrConfig {
				t.Errorf("Local(%+v, %d) = %d, %d", c, thread, addr, e)
			}
		}
		if m, e := epoch.New(c); m != nil || e != api.ErrConfig {
			t.Errorf("New(%+v) = %v, %d", c, m, e)
		}
		for _, moves := range [][]api.Move{nil, {pin(0), step(0)}, make([]api.Move, api.MaxMoves+1)} {
			if r, e := epoch.Play(c, moves); !sameRun(r, api.Run{}) || e != api.ErrConfig {
				t.Errorf("Play(%+v) = %+v, %d", c, r, e)
			}
		}
		for _, r := range []api.Run{{}, run} {
			if so, e := epoch.Holds(c, r); so || e != api.ErrConfig {
				t.Errorf("Holds(%+v) = %v, %d", c, so, e)
			}
			if list, e := epoch.Pinned(c, r); list != nil || e != api.ErrConfig {
				t.Errorf("Pinned(%+v) = %v, %d", c, list, e)
			}
		}
	}
}

// P20.2: MaxMoves moves are played, one more is refused; also if none of them does anything.
func TestErrLong(t *testing.T) {
	c := example()
	for _, mv := range []api.Move{step(0), pin(0), pin(7)} {
		moves := slices.Repeat([]api.Move{mv}, api.MaxMoves+1)
		if r, e := epoch.Play(c, moves); !sameRun(r, api.Run{}) || e != api.ErrLong {
			t.Errorf("Play of %d moves = %d", len(moves), e)
		}
		if _, e := epoch.Play(c, moves[:api.MaxMoves]); e != api.OK {
			t.Errorf("Play of %d moves = %d", api.MaxMoves, e)
		}
	}
	moves := append(slices.Repeat([]api.Move{step(1)}, api.MaxMoves-4), pin(0), step(0), step(0), step(0))
	if r := playOf(t, c, moves...); len(r.Calls) != 1 || r.Calls[0].End != api.MaxMoves-1 {
		t.Errorf("%+v", r.Calls)
	}
}

// A machine takes no more than MaxMoves moves.
func TestMachineTakesNoMore(t *testing.T) {
	y := yardOf(t, example())
	for range api.MaxMoves - 1 {
		y.m.Move(step(0))
	}
	y.make(t, pin(0))
	if y.m.Move(step(0)) || y.m.Moves() != api.MaxMoves {
		t.Errorf("%d moves", y.m.Moves())
	}
}

// P20.2: Play makes the moves on a machine of New; two of them have nothing to do with each other.
func TestPlayIsNew(t *testing.T) {
	eachChance(60, func(c api.Config, moves []api.Move) {
		one, other := yardOf(t, c), yardOf(t, c)
		for i, mv := range moves {
			one.m.Move(mv)
			other.m.Move(moves[len(moves)-1-i])
		}
		wantRun(t, one.m.Run(), playOf(t, c, moves...))
		slices.Reverse(moves)
		wantRun(t, other.m.Run(), playOf(t, c, moves...))
	})
}

// The longest ways of all: as many slots as there may be in a bag, and all of them given back in one collect.
func TestGreatBag(t *testing.T) {
	c := configOf(1, api.MaxRetire, 3, api.MaxSlots)
	y := yardOf(t, c)
	y.calls(t, done, pin(0))
	for i := range c.Slots {
		y.calls(t, done, stow(0, i))
	}
	y.calls(t, full, stow(0, 0))
	for i := range c.Slots {
		y.calls(t, value(c.Slots-1-i), draw(0))
	}
	y.calls(t, empty, draw(0))
	if y.word(epochAt(c)) != 1 {
		t.Errorf("the epoch is %d: the last draw should have moved it on", y.word(epochAt(c)))
	}
	y.calls(t, done, unpin(0))
	y.calls(t, yes, advance(0))
	y.calls(t, done, collect(0))
	if got := len(freeOf(c, y.m.Run().Words)); got != c.Slots-c.Cache {
		t.Errorf("%d slots are free", got)
	}
}
