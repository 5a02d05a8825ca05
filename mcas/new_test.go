package mcas_test

import (
	"math"
	"slices"
	"testing"

	"reclaim/api"
	"reclaim/mcas"
)

// greatest is a memory at all its limits.
func greatest() api.Multi {
	c := api.Multi{Threads: api.MaxThreads, Cells: slices.Repeat([]int{api.MaxMultiValue}, api.MaxMultiCells), Uses: api.MaxMultiUses}
	top := api.MaxMultiValue
	for range api.MaxMultis {
		c.Swaps = append(c.Swaps, swapOf([3]int{0, top, top}, [3]int{1, 0, top}, [3]int{30, top, 0}, [3]int{31, top, top}))
	}
	return c
}

// least is a memory with as little as may be, and one swap.
func least() api.Multi {
	return api.Multi{Threads: 1, Cells: []int{0}, Swaps: [][]api.MultiEntry{swapOf([3]int{0, 0, 0})}, Uses: 1}
}

// good are memories that may be.
func good() []api.Multi {
	list := []api.Multi{example(), greatest(), least(), changed(least(), func(c *api.Multi) { c.Swaps = nil })}
	for _, n := range []int{1, 2, 15, 16} {
		list = append(list, changed(example(), func(c *api.Multi) { c.Threads = n }))
	}
	for _, n := range []int{1, 2, 63, 64} {
		list = append(list, changed(example(), func(c *api.Multi) { c.Uses = n }))
	}
	for _, n := range []int{3, 4, 31, 32} {
		list = append(list, changed(example(), func(c *api.Multi) { c.Cells = make([]int, n) }))
	}
	for _, n := range []int{0, 1, 15, 16} {
		list = append(list, changed(example(), func(c *api.Multi) { c.Swaps = slices.Repeat(c.Swaps, n) }))
	}
	for width := 1; width <= 4; width++ {
		list = append(list, changed(greatest(), func(c *api.Multi) { c.Swaps[15] = c.Swaps[15][:width] }))
		list = append(list, changed(greatest(), func(c *api.Multi) { c.Swaps[0] = c.Swaps[0][4-width:] }))
	}
	return list
}

// wrong are memories that may not be, each by a single thing.
func wrong() []api.Multi {
	list := []api.Multi{{}}
	add := func(from api.Multi, change func(c *api.Multi)) { list = append(list, changed(from, change)) }
	for _, from := range []api.Multi{example(), greatest(), least()} {
		for _, n := range []int{0, -1, 17, math.MinInt, math.MaxInt} {
			add(from, func(c *api.Multi) { c.Threads = n })
		}
		for _, n := range []int{0, -1, 65, math.MinInt, math.MaxInt} {
			add(from, func(c *api.Multi) { c.Uses = n })
		}
		add(from, func(c *api.Multi) { c.Cells = nil })
		add(from, func(c *api.Multi) { c.Cells = []int{} })
		add(from, func(c *api.Multi) { c.Cells, c.Swaps = nil, nil })
		add(from, func(c *api.Multi) { c.Cells = make([]int, 33) })
		add(from, func(c *api.Multi) { c.Swaps = slices.Repeat(c.Swaps[:1], 17) })
		last, end := len(from.Cells)-1, len(from.Swaps)-1
		for _, v := range []int{-1, api.MaxMultiValue + 1, math.MinInt, math.MaxInt} {
			add(from, func(c *api.Multi) { c.Cells[0] = v })
			add(from, func(c *api.Multi) { c.Cells[last] = v })
			add(from, func(c *api.Multi) { c.Swaps[0][0].Old = v })
			add(from, func(c *api.Multi) { c.Swaps[0][0].New = v })
			add(from, func(c *api.Multi) { c.Swaps[end][len(c.Swaps[end])-1].Old = v })
			add(from, func(c *api.Multi) { c.Swaps[end][len(c.Swaps[end])-1].New = v })
		}
		for _, cell := range []int{-1, last + 1, math.MinInt, math.MaxInt} {
			add(from, func(c *api.Multi) { c.Swaps[0][0].Cell = cell })
			add(from, func(c *api.Multi) { c.Swaps[end][len(c.Swaps[end])-1].Cell = cell })
		}
		add(from, func(c *api.Multi) { c.Swaps[0] = nil })
		add(from, func(c *api.Multi) { c.Swaps[end] = []api.MultiEntry{} })
	}
	add(greatest(), func(c *api.Multi) { c.Swaps[7] = swapOf([3]int{0}, [3]int{1}, [3]int{2}, [3]int{3}, [3]int{4}) })
	for i := range 3 {
		add(greatest(), func(c *api.Multi) { c.Swaps[9][i+1].Cell = c.Swaps[9][i].Cell })
		add(greatest(), func(c *api.Multi) {
			c.Swaps[9][i].Cell, c.Swaps[9][i+1].Cell = c.Swaps[9][i+1].Cell, c.Swaps[9][i].Cell
		})
	}
	add(example(), func(c *api.Multi) { c.Cells = c.Cells[:2] })
	return list
}

// P25.1: each limit of a memory that may be, and one beside it.
func TestCheck(t *testing.T) {
	for _, c := range good() {
		if e := mcas.Check(c); e != api.OK {
			t.Errorf("Check(%+v) = %d", c, e)
		}
	}
	for i, c := range wrong() {
		if e := mcas.Check(c); e != api.ErrMulti {
			t.Errorf("memory %d: Check(%+v) = %d", i, c, e)
		}
	}
}

// ErrMulti comes ahead of all others, at every call that has it, and all else is zero beside it.
func TestErrMulti(t *testing.T) {
	played := playOf(t, example(), multi(0, 0), step(0), step(0), read(1, 2), step(1))
	wild := api.Run{Calls: []api.Call{{Op: api.OpPush, Point: -1}, {Thread: 99, Op: api.OpMulti}}, Words: []uint64{3, 1}}
	for _, c := range wrong() {
		if words, e := mcas.Words(c); words != nil || e != api.ErrMulti {
			t.Errorf("Words(%+v) = %v, %d", c, words, e)
		}
		if m, e := mcas.New(c); m != nil || e != api.ErrMulti {
			t.Errorf("New(%+v) = %v, %d", c, m, e)
		}
		for _, moves := range [][]api.Move{nil, {multi(0, 0), step(0)}, make([]api.Move, api.MaxMoves+1)} {
			if r, e := mcas.Play(c, moves); !sameRun(r, api.Run{}) || e != api.ErrMulti {
				t.Errorf("Play(%+v) = %+v, %d", c, r, e)
			}
		}
		for _, r := range []api.Run{{}, wild, played, {Words: make([]uint64, 13)}} {
			if cells, e := mcas.Cells(c, r.Words); cells != nil || e != api.ErrMulti {
				t.Errorf("Cells(%+v) = %v, %d", c, cells, e)
			}
			if so, e := mcas.Holds(c, r); so || e != api.ErrMulti {
				t.Errorf("Holds(%+v) = %v, %d", c, so, e)
			}
		}
	}
}

// P25.1: the cells' words are 4 times their values, all else is 0: a record for each thread, and two words for
// each descriptor.
func TestWords(t *testing.T) {
	d := dice(4)
	list := good()
	for range 50 {
		list = append(list, chanceMulti(&d))
	}
	for _, c := range list {
		var want []uint64
		for _, v := range c.Cells {
			want = append(want, uint64(v)*4)
		}
		want = append(want, make([]uint64, c.Threads+2*c.Threads*c.Uses)...)
		got, e := mcas.Words(c)
		if !slices.Equal(got, want) || e != api.OK {
			t.Errorf("Words(%+v) = %d, %d, not %d", c, got, e, want)
		}
		if cells, e := mcas.Cells(c, got); !slices.Equal(cells, c.Cells) || e != api.OK {
			t.Errorf("Cells = %v, %d, not %v", cells, e, c.Cells)
		}
	}
	if words, _ := mcas.Words(greatest()); len(words) != 32+16+2048 || words[31] != 4*(1<<20-1) {
		t.Errorf("Words of the greatest memory: %d of them", len(words))
	}
}

// P25.1: a machine of so many threads over those words, all of which are idle.
func TestNew(t *testing.T) {
	for _, c := range good() {
		w := rowOf(t, c)
		words, _ := mcas.Words(c)
		wantRun(t, w.m.Run(), api.Run{Words: words})
		wantRun(t, playOf(t, c), w.m.Run())
		if w.m.Moves() != 0 || w.m.Move(read(c.Threads, 0)) || w.m.Move(read(-1, 0)) {
			t.Errorf("%+v has a move or a thread too many", c)
		}
		for thread := range c.Threads {
			if w.m.Busy(thread) || w.m.Move(step(thread)) {
				t.Errorf("thread %d is busy", thread)
			}
			w.calls(t, value(c.Cells[len(c.Cells)-1]), read(thread, len(c.Cells)-1))
		}
		w.wantHolds(t)
	}
}

// P25.1: two calls are begun, by their numbers; all other ops do nothing. Data isn't looked at.
func TestOps(t *testing.T) {
	for op := api.Op(-2); op < 300; op++ {
		w := rowOf(t, example())
		mv := api.Move{Thread: 1, Op: op, Data: math.MinInt}
		if op != 130 && op != 131 {
			w.refuses(t, mv)
			continue
		}
		ahead := w.m.Run()
		w.make(t, mv)
		ahead.Calls = append(ahead.Calls, api.Call{Thread: 1, Op: op, Data: math.MinInt, End: none, Point: none})
		wantRun(t, w.m.Run(), ahead)
		w.finish(t, 1)
		want := map[api.Op]api.Answer{130: yes, 131: value(5)}[op]
		if c := w.last(1); c.Answer != want || c.Data != math.MinInt {
			t.Errorf("%+v", c)
		}
		w.wantHolds(t)
	}
}

// P25.5, P25.6: a swap or a cell that there isn't.
func TestRefusedArguments(t *testing.T) {
	odd := []int{-1, -2, math.MinInt, math.MaxInt, 1 << 32, 1<<32 + 1}
	for _, c := range []api.Multi{example(), greatest(), least()} {
		w := rowOf(t, c)
		for _, arg := range append(odd, len(c.Swaps), len(c.Swaps)+1) {
			w.refuses(t, multi(0, arg))
		}
		for _, arg := range append(odd, len(c.Cells), len(c.Cells)+1) {
			w.refuses(t, read(0, arg))
		}
		// What was refused has used nothing up.
		for use := range c.Uses {
			w.make(t, multi(0, len(c.Swaps)-1), step(0))
			want := store(0, numberAt(c, use), len(c.Swaps)-1)
			if got := w.m.Run().Trace; got[len(got)-1].Addr != want.Addr || got[len(got)-1].New != want.New {
				t.Fatalf("%+v, not %+v", got[len(got)-1], want)
			}
			w.finish(t, 0)
		}
		w.refuses(t, multi(0, len(c.Swaps)-1))
		cells, _ := mcas.Cells(c, w.m.Run().Words)
		w.calls(t, value(cells[0]), read(0, 0))
	}
	w := rowOf(t, changed(example(), func(c *api.Multi) { c.Swaps = nil }))
	w.refuses(t, multi(0, 0), multi(0, -1), multi(1, 0))
	w.calls(t, value(7), read(0, 2))
}

// P3: what a busy thread is told to begin, and a thread that there isn't.
func TestRefusedThreads(t *testing.T) {
	for _, mv := range []api.Move{multi(0, 0), read(0, 1)} {
		w := rowOf(t, example())
		w.refuses(t, step(0), step(1), step(2), multi(2, 0), read(2, 0), multi(-1, 0), read(-1, 0))
		w.make(t, mv)
		w.refuses(t, multi(0, 0), read(0, 0), step(1))
		for w.m.Busy(0) {
			w.make(t, step(0))
			if w.m.Busy(0) {
				w.refuses(t, multi(0, 0), read(0, 0))
			}
		}
		w.refuses(t, step(0))
		w.calls(t, value(6), read(1, 1))
		w.wantHolds(t)
	}
}

// P25.5: a thread begins Uses calls of OpMulti, whether they answer yes or no, and each has the next descriptor;
// its reads, and others' calls, don't count.
func TestUses(t *testing.T) {
	for _, uses := range []int{1, 2, 3, 17, api.MaxMultiUses} {
		c := changed(example(), func(c *api.Multi) { c.Threads, c.Uses = 3, uses })
		w := rowOf(t, c)
		for use := range uses {
			for _, thread := range []int{2, 0, 1} {
				w.calls(t, value(6), read(thread, 1))
				w.make(t, multi(thread, 0))
				w.goes(t, store(thread, numberAt(c, thread*uses+use), 0), load(thread, statusAt(c, thread*uses+use), 0))
				w.finish(t, thread)
			}
		}
		for thread := range 3 {
			w.refuses(t, multi(thread, 0))
			w.calls(t, value(6), read(thread, 1))
		}
		w.wantHolds(t)
	}
}

// P25.1: MaxMoves moves are played, one more is refused; also if none of them does anything.
func TestErrLong(t *testing.T) {
	c := example()
	for _, mv := range []api.Move{step(0), multi(0, 0), read(7, 0)} {
		moves := slices.Repeat([]api.Move{mv}, api.MaxMoves+1)
		if r, e := mcas.Play(c, moves); !sameRun(r, api.Run{}) || e != api.ErrLong {
			t.Errorf("Play of %d moves = %d", len(moves), e)
		}
		if _, e := mcas.Play(c, moves[:api.MaxMoves]); e != api.OK {
			t.Errorf("Play of %d moves = %d", api.MaxMoves, e)
		}
	}
	moves := append(slices.Repeat([]api.Move{step(1)}, api.MaxMoves-21), multi(1, 0))
	r := playOf(t, c, append(moves, slices.Repeat([]api.Move{step(1)}, 20)...)...)
	if len(r.Calls) != 1 || r.Calls[0].End != api.MaxMoves-1 || r.Calls[0].Answer != yes {
		t.Errorf("%+v", r.Calls)
	}
	if so, e := mcas.Holds(c, r); !so || e != api.OK {
		t.Errorf("Holds = %v, %d", so, e)
	}
}

// A machine takes no more than MaxMoves moves.
func TestMachineTakesNoMore(t *testing.T) {
	w := rowOf(t, example())
	for range api.MaxMoves - 1 {
		w.m.Move(step(0))
	}
	w.make(t, read(1, 0))
	if w.m.Move(step(1)) || w.m.Moves() != api.MaxMoves {
		t.Errorf("%d moves", w.m.Moves())
	}
}

// P25.1: Play makes the moves on a machine of New; two of them have nothing to do with each other.
func TestPlayIsNew(t *testing.T) {
	eachChance(70, func(c api.Multi, moves []api.Move) {
		one, other := rowOf(t, c), rowOf(t, c)
		for i, mv := range moves {
			one.m.Move(mv)
			other.m.Move(moves[len(moves)-1-i])
		}
		wantRun(t, one.m.Run(), playOf(t, c, moves...))
		slices.Reverse(moves)
		wantRun(t, other.m.Run(), playOf(t, c, moves...))
	})
}
