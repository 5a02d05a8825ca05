package deque_test

import (
	"slices"
	"testing"

	"reclaim/api"
	"reclaim/deque"
)

// edges are deques at the ends of their limits, and some between.
func edges() []api.Deque {
	return []api.Deque{
		dequeOf(1, 1), dequeOf(1, api.MaxRoom), dequeOf(api.MaxThreads, 1), dequeOf(api.MaxThreads, api.MaxRoom), example(), dequeOf(3, 7),
	}
}

// wrong are deques with a number out of its limits, or both.
func wrong() []api.Deque {
	list := []api.Deque{{}, dequeOf(0, api.MaxRoom+1), dequeOf(-1, -1)}
	for _, n := range []int{0, -1, -1 << 63, 1<<63 - 1} {
		list = append(list, dequeOf(n, 2), dequeOf(2, n))
	}
	return append(list, dequeOf(api.MaxThreads+1, 2), dequeOf(2, api.MaxRoom+1))
}

// P21.1: the words are 2 and as many as there are cells, all 0; the threads are those of the deque.
func TestNew(t *testing.T) {
	for _, d := range edges() {
		y := yardOf(t, d)
		if r := y.m.Run(); !sameRun(r, api.Run{Words: make([]uint64, 2+d.Room)}) {
			t.Errorf("%+v: %+v", d, r)
		}
		wantRun(t, playOf(t, d), y.m.Run())
		for thread := range d.Threads {
			y.make(t, steal(thread))
		}
		if y.m.Move(steal(d.Threads)) || y.m.Move(steal(-1)) {
			t.Errorf("%+v has a thread too many", d)
		}
	}
}

// P21.1: the machine has the three calls and no others.
func TestOps(t *testing.T) {
	for op := api.Op(-2); op < 200; op++ {
		y := yardOf(t, example())
		known := op == api.OpDequePush || op == api.OpDequeTake || op == api.OpSteal
		if y.m.Move(api.Move{Op: op}) != known {
			t.Errorf("op %d: begun %v", op, !known)
		}
	}
}

// A push and a take are refused of any thread but the owner, whatever the deque has; nothing is told of them.
func TestOwnersCalls(t *testing.T) {
	d := dequeOf(api.MaxThreads, 3)
	y := filled(t, d, 2, 5, 6)
	ahead := y.m.Run()
	for thread := 1; thread < d.Threads; thread++ {
		for _, op := range []api.Op{api.OpDequePush, api.OpDequeTake} {
			mv := api.Move{Thread: thread, Op: op, Arg: 7}
			if y.m.Move(mv) || y.m.Busy(thread) || y.m.Move(step(thread)) {
				t.Errorf("%+v is begun", mv)
			}
		}
		if _, any := y.m.Call(thread); any {
			t.Errorf("thread %d has a call", thread)
		}
	}
	wantRun(t, y.m.Run(), ahead)
	y.make(t, steal(3))
	y.calls(t, done, push(7))
	y.calls(t, value(7), take())
}

// ErrDeque comes ahead of all others, at every call that has it, and all else is zero beside it.
func TestErrDeque(t *testing.T) {
	wild := api.Run{Calls: []api.Call{{Op: api.OpPush, Point: -1}, {Thread: 9, Op: api.OpDequePush}}, Words: []uint64{9, 1}}
	for _, d := range wrong() {
		if m, e := deque.New(d); m != nil || e != api.ErrDeque {
			t.Errorf("New(%+v) = %v, %d", d, m, e)
		}
		for _, moves := range [][]api.Move{nil, {push(1), step(0)}, make([]api.Move, api.MaxMoves+1)} {
			if r, e := deque.Play(d, moves); !sameRun(r, api.Run{}) || e != api.ErrDeque {
				t.Errorf("Play(%+v) = %+v, %d", d, r, e)
			}
		}
		for _, r := range []api.Run{{}, wild, {Words: make([]uint64, max(0, min(2+d.Room, 300)))}} {
			if list, e := deque.Left(d, r.Words); list != nil || e != api.ErrDeque {
				t.Errorf("Left(%+v) = %v, %d", d, list, e)
			}
			if so, e := deque.Holds(d, r); so || e != api.ErrDeque {
				t.Errorf("Holds(%+v) = %v, %d", d, so, e)
			}
			if list, e := deque.Spread(d, r); list != nil || e != api.ErrDeque {
				t.Errorf("Spread(%+v) = %v, %d", d, list, e)
			}
		}
	}
	for _, d := range edges() {
		if _, e := deque.New(d); e != api.OK {
			t.Errorf("New(%+v) = %d", d, e)
		}
	}
}

// P21.1: MaxMoves moves are played, one more is refused; also if none of them does anything.
func TestErrLong(t *testing.T) {
	d := example()
	for _, mv := range []api.Move{step(0), push(0), steal(7)} {
		moves := slices.Repeat([]api.Move{mv}, api.MaxMoves+1)
		if r, e := deque.Play(d, moves); !sameRun(r, api.Run{}) || e != api.ErrLong {
			t.Errorf("Play of %d moves = %d", len(moves), e)
		}
		if _, e := deque.Play(d, moves[:api.MaxMoves]); e != api.OK {
			t.Errorf("Play of %d moves = %d", api.MaxMoves, e)
		}
	}
	moves := append(slices.Repeat([]api.Move{step(1)}, api.MaxMoves-5), push(5), step(0), step(0), step(0), step(0))
	r := playOf(t, d, moves...)
	if len(r.Calls) != 1 || r.Calls[0].End != api.MaxMoves-1 || r.Calls[0].Point != api.MaxMoves-1 {
		t.Errorf("%+v", r.Calls)
	}
	wantLeft(t, d, r.Words, 5)
}

// A machine takes no more than MaxMoves moves.
func TestMachineTakesNoMore(t *testing.T) {
	y := yardOf(t, example())
	for range api.MaxMoves - 1 {
		y.m.Move(step(0))
	}
	y.make(t, steal(1))
	if y.m.Move(step(1)) || y.m.Moves() != api.MaxMoves {
		t.Errorf("%d moves", y.m.Moves())
	}
}

// P21.1: Play makes the moves on a machine of New; two of them have nothing to do with each other, though
// the calls of one share what the owner's take has done.
func TestPlayIsNew(t *testing.T) {
	eachChance(60, func(d api.Deque, moves []api.Move) {
		one, other := yardOf(t, d), yardOf(t, d)
		for i, mv := range moves {
			one.m.Move(mv)
			other.m.Move(moves[len(moves)-1-i])
		}
		wantRun(t, one.m.Run(), playOf(t, d, moves...))
		slices.Reverse(moves)
		wantRun(t, other.m.Run(), playOf(t, d, moves...))
	})
}

// P21.4: a take on its way in one machine moves no point in another.
func TestMachinesShareNothing(t *testing.T) {
	one, _ := stealAgainst(t, 0, 5)
	other, _ := stealAgainst(t, 3, 5)
	one.goes(t, rise(1, 0))
	one.ended(t, 1, value(5), one.now())
	other.goes(t, rise(1, 0))
	other.ended(t, 1, value(5), other.last(0).Begin+2)
}

// The longest ring: filled, emptied from both ends, and round its end again.
func TestGreatRing(t *testing.T) {
	d := dequeOf(2, api.MaxRoom)
	y := filled(t, d, 200)
	for i := range d.Room {
		y.calls(t, done, push(i))
	}
	y.calls(t, full, push(0))
	for i := range d.Room / 2 {
		y.calls(t, value(i), steal(1))
		y.calls(t, value(d.Room-1-i), take())
	}
	y.calls(t, empty, take(), steal(1))
	y.wantHolds(t)
}
