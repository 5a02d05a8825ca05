package ring_test

import (
	"slices"
	"testing"

	"reclaim/api"
	"reclaim/ring"
)

// edges are rings at the ends of their limits, and some between.
func edges() []api.Ring {
	return []api.Ring{
		ringOf(1, 2), ringOf(1, api.MaxRing), ringOf(api.MaxThreads, 2), ringOf(api.MaxThreads, api.MaxRing), example(), ringOf(3, 7),
	}
}

// wrong are rings with a number out of its limits, or both.
func wrong() []api.Ring {
	list := []api.Ring{{}, ringOf(0, api.MaxRing+1), ringOf(-1, -1), ringOf(api.MaxThreads+1, 1)}
	for _, n := range []int{0, -1, -1 << 63, 1<<63 - 1} {
		list = append(list, ringOf(n, 2), ringOf(2, n))
	}
	return append(list, ringOf(api.MaxThreads+1, 2), ringOf(2, 1), ringOf(2, api.MaxRing+1))
}

// P22.1: each number within its limits, and one beyond them.
func TestCheck(t *testing.T) {
	for threads := -2; threads < 20; threads++ {
		for cells := -2; cells < 70; cells++ {
			want := api.ErrRing
			if threads >= 1 && threads <= 16 && cells >= 2 && cells <= 64 {
				want = api.OK
			}
			if e := ring.Check(ringOf(threads, cells)); e != want {
				t.Errorf("Check(%d threads, %d cells) = %d", threads, cells, e)
			}
		}
	}
}

// ErrRing comes ahead of all others, at every call that has it, and all else is zero beside it.
func TestErrRing(t *testing.T) {
	played := playOf(t, example(), put(0, 7), step(0), step(0), step(0))
	wild := api.Run{Calls: []api.Call{{Op: api.OpPush, Point: -1}, {Thread: 99, Op: api.OpPut}}, Words: []uint64{9, 1}}
	for _, c := range wrong() {
		if e := ring.Check(c); e != api.ErrRing {
			t.Errorf("Check(%+v) = %d", c, e)
		}
		if words, e := ring.Words(c); words != nil || e != api.ErrRing {
			t.Errorf("Words(%+v) = %v, %d", c, words, e)
		}
		if m, e := ring.New(c); m != nil || e != api.ErrRing {
			t.Errorf("New(%+v) = %v, %d", c, m, e)
		}
		for _, moves := range [][]api.Move{nil, {put(0, 1), step(0)}, make([]api.Move, api.MaxMoves+1)} {
			if r, e := ring.Play(c, moves); !sameRun(r, api.Run{}) || e != api.ErrRing {
				t.Errorf("Play(%+v) = %+v, %d", c, r, e)
			}
		}
		for _, r := range []api.Run{{}, wild, played} {
			if puts, picks, e := ring.Tickets(c, r); puts != nil || picks != nil || e != api.ErrRing {
				t.Errorf("Tickets(%+v) = %v, %v, %d", c, puts, picks, e)
			}
			if so, e := ring.Holds(c, r); so || e != api.ErrRing {
				t.Errorf("Holds(%+v) = %v, %d", c, so, e)
			}
		}
	}
}

// P22.1: two counters, and of each cell its turn, its number at first, and its value; all else is 0.
func TestWords(t *testing.T) {
	for cells := 2; cells <= api.MaxRing; cells++ {
		want := make([]uint64, 2+2*cells)
		for i := range cells {
			want[2+2*i] = uint64(i)
		}
		for _, threads := range []int{1, 5, api.MaxThreads} {
			if got, e := ring.Words(ringOf(threads, cells)); !slices.Equal(got, want) || e != api.OK {
				t.Errorf("Words(%d cells) = %d, %d", cells, got, e)
			}
		}
	}
}

// P22.2: a machine of the ring's threads over its words, whose threads are all idle.
func TestNew(t *testing.T) {
	for _, c := range edges() {
		w := wheelOf(t, c)
		words, _ := ring.Words(c)
		wantRun(t, w.m.Run(), api.Run{Words: words})
		wantRun(t, playOf(t, c), w.m.Run())
		if w.m.Moves() != 0 || w.m.Move(put(c.Threads, 1)) || w.m.Move(pick(-1)) {
			t.Errorf("%+v has a move or a thread too many", c)
		}
		for thread := range c.Threads {
			if w.m.Busy(thread) || w.m.Move(step(thread)) {
				t.Errorf("thread %d is busy", thread)
			}
			w.make(t, pick(thread), step(thread))
		}
	}
}

// P22.2: the machine has the two calls and no others; neither is refused to begin, whatever the ring holds.
func TestOps(t *testing.T) {
	for _, values := range [][]int{nil, {5}, {5, 6}} {
		for op := api.Op(-2); op < 200; op++ {
			for thread := range 2 {
				w := filled(t, example(), 1, values...)
				known := op == api.OpPut || op == api.OpPick
				ahead := w.m.Run()
				if w.m.Move(api.Move{Thread: thread, Op: op, Arg: 3, Data: 4}) != known {
					t.Errorf("op %d: begun %v", op, !known)
				}
				if known {
					begun := api.Call{Thread: thread, Op: op, Arg: 3, Data: 4, Begin: w.now(), End: -1, Point: -1}
					ahead.Calls = append(ahead.Calls, begun)
				}
				wantRun(t, w.m.Run(), ahead)
			}
		}
	}
}

// P22.2: MaxMoves moves are played, one more is refused; also if none of them does anything.
func TestErrLong(t *testing.T) {
	c := example()
	for _, mv := range []api.Move{step(0), put(0, 0), pick(7)} {
		moves := slices.Repeat([]api.Move{mv}, api.MaxMoves+1)
		if r, e := ring.Play(c, moves); !sameRun(r, api.Run{}) || e != api.ErrLong {
			t.Errorf("Play of %d moves = %d", len(moves), e)
		}
		if _, e := ring.Play(c, moves[:api.MaxMoves]); e != api.OK {
			t.Errorf("Play of %d moves = %d", api.MaxMoves, e)
		}
	}
	moves := append(slices.Repeat([]api.Move{step(1)}, api.MaxMoves-6), put(0, 5), step(0), step(0), step(0), step(0), step(0))
	r := playOf(t, c, moves...)
	if len(r.Calls) != 1 || r.Calls[0].End != api.MaxMoves-1 || r.Calls[0].Point != api.MaxMoves-3 {
		t.Errorf("%+v", r.Calls)
	}
	if so, e := ring.Holds(c, r); !so || e != api.OK {
		t.Errorf("Holds = %v, %d", so, e)
	}
}

// A machine takes no more than MaxMoves moves.
func TestMachineTakesNoMore(t *testing.T) {
	w := wheelOf(t, example())
	for range api.MaxMoves - 1 {
		w.m.Move(step(0))
	}
	w.make(t, pick(1))
	if w.m.Move(step(1)) || w.m.Moves() != api.MaxMoves {
		t.Errorf("%d moves", w.m.Moves())
	}
}

// P22.2: Play makes the moves on a machine of New; two of them have nothing to do with each other.
func TestPlayIsNew(t *testing.T) {
	eachChance(60, func(c api.Ring, moves []api.Move) {
		one, other := wheelOf(t, c), wheelOf(t, c)
		for i, mv := range moves {
			one.m.Move(mv)
			other.m.Move(moves[len(moves)-1-i])
		}
		wantRun(t, one.m.Run(), playOf(t, c, moves...))
		slices.Reverse(moves)
		wantRun(t, other.m.Run(), playOf(t, c, moves...))
	})
}

// The longest ring, with the most threads: filled, emptied, and gone round again.
func TestGreatRing(t *testing.T) {
	c := ringOf(api.MaxThreads, api.MaxRing)
	w := filled(t, c, 100)
	for i := range 2 * c.Cells {
		w.calls(t, done, put(i%16, i))
		if i >= c.Cells/2 {
			w.calls(t, value(i-c.Cells/2), pick(15-i%16))
		}
	}
	for i := range c.Cells / 2 {
		w.calls(t, done, put(i%16, -i))
	}
	w.calls(t, full, put(3, 0))
	for range c.Cells {
		if got := w.call(t, pick(4)).Answer.Kind; got != api.AnswerValue {
			t.Fatalf("a pick answers %d", got)
		}
	}
	w.calls(t, empty, pick(5))
	w.wantHolds(t)
}
