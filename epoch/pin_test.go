package epoch_test

import (
	"testing"

	"reclaim/api"
)

// A pin and an unpin in epochs other than the first one; there and back again.
func TestPinInLaterEpochs(t *testing.T) {
	c := example()
	y := yardOf(t, c)
	for e := range uint64(4) {
		y.tells(t, pin(1), story{done, -1, []api.Access{
			load(1, epochAt(c), e), store(1, localAt(c, 1), e+1), load(1, epochAt(c), e),
		}, nil})
		y.tells(t, unpin(1), story{done, -1, []api.Access{store(1, localAt(c, 1), 0)}, nil})
		y.calls(t, yes, advance(0))
	}
}

// A pin goes round when the epoch has moved on since its load: ahead of its store, or behind it; by
// one epoch, or by several; once, or again and again.
func TestPinGoesRound(t *testing.T) {
	c := example()
	y := yardOf(t, c)
	y.make(t, pin(0))
	y.goes(t, load(0, 23, 0))
	y.calls(t, yes, advance(1), advance(1), advance(1))
	y.goes(t, store(0, 24, 1), load(0, 23, 3), store(0, 24, 4))
	y.calls(t, yes, advance(1))
	y.goes(t, load(0, 23, 4), store(0, 24, 5))
	y.calls(t, yes, advance(1))
	y.goes(t, load(0, 23, 5), store(0, 24, 6), load(0, 23, 5))
	y.ended(t, 0, done, -1)
	y.calls(t, yes, advance(1))
	y.calls(t, no, advance(1))
}

// A pin that has told an epoch that is over holds the epoch up, though its thread is not pinned yet;
// and it goes on all the same.
func TestPinOnItsWayHoldsUp(t *testing.T) {
	c := example()
	y := yardOf(t, c)
	y.make(t, pin(0))
	y.goes(t, load(0, 23, 0))
	y.calls(t, yes, advance(1))
	y.goes(t, store(0, 24, 1))
	y.calls(t, no, advance(1))
	y.goes(t, load(0, 23, 1), store(0, 24, 2))
	y.calls(t, yes, advance(1))
	y.goes(t, load(0, 23, 2), store(0, 24, 3), load(0, 23, 2))
	y.ended(t, 0, done, -1)
}

// An unpin stays without effect till its access is made.
func TestUnpinOnItsWay(t *testing.T) {
	c := example()
	y := yardOf(t, c)
	y.calls(t, done, pin(0))
	y.calls(t, yes, advance(1))
	y.make(t, unpin(0))
	y.calls(t, no, advance(1))
	y.goes(t, store(0, 24, 0))
	y.ended(t, 0, done, -1)
	y.calls(t, yes, advance(1))
}

// refusals tells of each op whether it begins, of a thread that is not pinned, and of one that is.
func refusals() map[api.Op][2]bool {
	return map[api.Op][2]bool{
		api.OpPin: {true, false}, api.OpUnpin: {false, true}, api.OpStow: {false, true},
		api.OpDraw: {false, true}, api.OpAdvance: {true, true}, api.OpCollect: {true, true},
	}
}

// Each call begins just where the thread is pinned, or is not, as the table says; by each thread, whatever
// the others are. What is refused is recorded nowhere, but counts as a move.
func TestRefused(t *testing.T) {
	c := configOf(3, 2, 0, 3)
	for op, begins := range refusals() {
		for thread := range c.Threads {
			for i, pinned := range []bool{false, true} {
				y := yardOf(t, c)
				for other := range c.Threads {
					if (other == thread) == pinned {
						y.calls(t, done, pin(other))
					}
				}
				ahead := y.m.Run()
				moves := y.m.Moves()
				if got := y.m.Move(api.Move{Thread: thread, Op: op, Arg: 5}); got != begins[i] {
					t.Errorf("op %d of thread %d, pinned %v: %v", op, thread, pinned, got)
				}
				if y.m.Moves() != moves+1 {
					t.Errorf("op %d: %d moves behind %d", op, y.m.Moves(), moves)
				}
				if y.m.Busy(thread) != begins[i] {
					t.Errorf("op %d of thread %d, pinned %v: busy %v", op, thread, pinned, !begins[i])
				}
				if !begins[i] {
					wantRun(t, y.m.Run(), ahead)
				}
			}
		}
	}
}

// A thread is pinned from the end of its pin to the access of its unpin, and can be again.
func TestRefusedInTurn(t *testing.T) {
	y := yardOf(t, example())
	for range 3 {
		if y.m.Move(unpin(0)) {
			t.Fatal("an unpin begins though the thread is not pinned")
		}
		y.calls(t, done, pin(0))
		if y.m.Move(pin(0)) {
			t.Fatal("a pin begins though the thread is pinned")
		}
		y.calls(t, done, stow(0, 1))
		y.calls(t, done, unpin(0))
		if y.m.Move(stow(0, 1)) || y.m.Move(draw(0)) {
			t.Fatal("a call begins though the thread is not pinned")
		}
	}
}

// A busy thread begins nothing; an op of another layer, a thread that there isn't, and a step of an
// idle thread do nothing.
func TestMovesThatDoNothing(t *testing.T) {
	c := example()
	for op := range refusals() {
		y := yardOf(t, c)
		if op != api.OpPin {
			y.calls(t, done, pin(0))
		}
		if !y.m.Move(api.Move{Thread: 0, Op: op}) {
			y.make(t, unpin(0))
		}
		for other := range refusals() {
			if y.m.Move(api.Move{Thread: 0, Op: other}) {
				t.Errorf("op %d begins while op %d is on its way", other, op)
			}
		}
	}
	for _, pinned := range []bool{false, true} {
		y := yardOf(t, c)
		if pinned {
			y.calls(t, done, pin(0))
		}
		ahead := y.m.Run()
		for op := api.Op(-3); op < 200; op++ {
			if _, there := refusals()[op]; !there && y.m.Move(api.Move{Thread: 0, Op: op}) {
				t.Errorf("op %d does something", op)
			}
		}
		for op := range refusals() {
			for _, thread := range []int{-1, 2, 16, -1 << 63, 1<<63 - 1} {
				if y.m.Move(api.Move{Thread: thread, Op: op}) {
					t.Errorf("op %d of thread %d does something", op, thread)
				}
			}
		}
		wantRun(t, y.m.Run(), ahead)
	}
}
