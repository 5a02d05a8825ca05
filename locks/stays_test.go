package locks_test

import (
	"slices"
	"testing"

	"reclaim/api"
	"reclaim/locks"
)

// callOf is a call of a run that is told by hand.
func callOf(op api.Op, thread, begin, end int) api.Call {
	c := api.Call{Thread: thread, Op: op, Begin: begin, End: end, Point: end}
	if end != none {
		c.Answer = done
	}
	return c
}

func in(thread, end int) api.Call { return callOf(api.OpAcquire, thread, end-1, end) }

func out(thread, begin int) api.Call { return callOf(api.OpRelease, thread, begin, begin+1) }

func shareIn(thread, end int) api.Call { return callOf(api.OpShare, thread, end-2, end) }

func shareOut(thread, begin int) api.Call { return callOf(api.OpUnshare, thread, begin, begin+2) }

func alone(thread, from, to int) api.Stay { return api.Stay{Thread: thread, From: from, To: to} }

func shared(thread, from, to int) api.Stay {
	return api.Stay{Thread: thread, Shared: true, From: from, To: to}
}

func callsOf(calls ...api.Call) []api.Call { return calls }

// plainStays is P24.3 by its words, in the simplest way.
func plainStays(r api.Run) []api.Stay {
	var stays []api.Stay
	for i, c := range r.Calls {
		leaves := map[api.Op]api.Op{api.OpAcquire: api.OpRelease, api.OpShare: api.OpUnshare}[c.Op]
		if leaves == 0 || c.End == none {
			continue
		}
		s := api.Stay{Thread: c.Thread, Shared: c.Op == api.OpShare, From: c.End, To: none}
		for _, other := range r.Calls[i+1:] {
			if other.Thread == c.Thread && other.Op == leaves {
				s.To = other.Begin
				break
			}
		}
		at := len(stays)
		for at > 0 && stays[at-1].From > s.From {
			at--
		}
		stays = slices.Insert(stays, at, s)
	}
	return stays
}

func wantStaysOf(t *testing.T, calls []api.Call, want ...api.Stay) {
	t.Helper()
	r := api.Run{Calls: calls}
	if plainly := plainStays(r); !slices.Equal(plainly, want) {
		t.Fatalf("%+v: the plain stays are %+v, not %+v", calls, plainly, want)
	}
	for _, kind := range kinds() { // the kind is nothing to it
		if got, e := locks.Stays(locksOf(1, kind), r); !slices.Equal(got, want) || e != api.OK {
			t.Errorf("Stays(%+v) = %+v, %d, not %+v", calls, got, e, want)
		}
	}
}

// P24.3: from the end of what gets in to the beginning of what gets out.
func TestStays(t *testing.T) {
	wantStaysOf(t, nil)
	wantStaysOf(t, callsOf(in(0, 3)), alone(0, 3, none))
	wantStaysOf(t, callsOf(in(0, 3), out(0, 7)), alone(0, 3, 7))
	wantStaysOf(t, callsOf(shareIn(4, 3), shareOut(4, 7)), shared(4, 3, 7))
	wantStaysOf(t, callsOf(in(0, 3), out(0, 7), in(1, 9), out(1, 11), in(0, 20)), alone(0, 3, 7), alone(1, 9, 11), alone(0, 20, none))
	wantStaysOf(t, callsOf(in(0, 3), in(1, 9), out(0, 7), out(1, 11)), alone(0, 3, 7), alone(1, 9, 11))
}

// P24.3: a call that has not ended is no stay; one by which a thread gets out counts by its beginning alone.
func TestStaysOfCallsThatHaveNotEnded(t *testing.T) {
	wantStaysOf(t, callsOf(callOf(api.OpAcquire, 0, 1, none), out(0, 7)))
	wantStaysOf(t, callsOf(callOf(api.OpShare, 0, 1, none), shareOut(0, 7)))
	wantStaysOf(t, callsOf(in(0, 3), callOf(api.OpRelease, 0, 7, none)), alone(0, 3, 7))
	wantStaysOf(t, callsOf(shareIn(0, 3), callOf(api.OpUnshare, 0, 7, none)), shared(0, 3, 7))
	waiting := callOf(api.OpAcquire, 0, 1, none)
	waiting.Point = 2
	wantStaysOf(t, callsOf(waiting))
	waiting.Answer = done
	wantStaysOf(t, callsOf(waiting))
	wantStaysOf(t, callsOf(callOf(api.OpAcquire, 0, -9, -2), callOf(api.OpShare, 0, 1, 0)), alone(0, -2, none), shared(0, 0, none))
}

// P24.3: what gets out is the first one behind in the list, of the same thread, and of the op's own kind.
func TestStaysWhatGetsOut(t *testing.T) {
	wantStaysOf(t, callsOf(out(0, 1), in(0, 3)), alone(0, 3, none))
	wantStaysOf(t, callsOf(out(0, 9), in(0, 3)), alone(0, 3, none))
	wantStaysOf(t, callsOf(in(0, 3), out(1, 7)), alone(0, 3, none))
	wantStaysOf(t, callsOf(in(0, 3), out(-1, 7), out(1, 8), out(0, 9)), alone(0, 3, 9))
	wantStaysOf(t, callsOf(in(0, 3), shareOut(0, 7)), alone(0, 3, none))
	wantStaysOf(t, callsOf(in(0, 3), shareOut(0, 7), out(0, 9)), alone(0, 3, 9))
	wantStaysOf(t, callsOf(shareIn(0, 3), out(0, 7)), shared(0, 3, none))
	wantStaysOf(t, callsOf(shareIn(0, 3), out(0, 7), shareOut(0, 9)), shared(0, 3, 9))
	wantStaysOf(t, callsOf(in(0, 3), out(0, 9), out(0, 7)), alone(0, 3, 9))
	wantStaysOf(t, callsOf(in(0, 3), out(0, 1)), alone(0, 3, 1))
	wantStaysOf(t, callsOf(in(0, 3), out(0, 7), in(0, 8), out(0, 9)), alone(0, 3, 7), alone(0, 8, 9))
	wantStaysOf(t, callsOf(in(0, 3), in(0, 5), out(0, 9)), alone(0, 3, 9), alone(0, 5, 9))
	wantStaysOf(t, callsOf(in(0, 3), shareIn(0, 5), out(0, 9), shareOut(0, 11)), alone(0, 3, 9), shared(0, 5, 11))
	wantStaysOf(t, callsOf(in(0, 3), out(0, -1), out(0, 9)), alone(0, 3, none))
	for op := api.Op(-2); op < 200; op++ {
		if op != api.OpRelease && op != api.OpUnshare && op != api.OpAcquire && op != api.OpShare {
			wantStaysOf(t, callsOf(in(0, 3), shareIn(0, 4), callOf(op, 0, 7, 8)), alone(0, 3, none), shared(0, 4, none))
		}
	}
}

// P24.3: by From, of like ones as in the list.
func TestStaysInOrder(t *testing.T) {
	wantStaysOf(t, callsOf(in(0, 9), in(1, 3), in(2, 5)), alone(1, 3, none), alone(2, 5, none), alone(0, 9, none))
	wantStaysOf(t, callsOf(in(2, 5), in(0, 5), shareIn(3, 5), in(1, 5)), alone(2, 5, none), alone(0, 5, none), shared(3, 5, none), alone(1, 5, none))
	wantStaysOf(t, callsOf(in(2, 5), in(7, -3), in(0, 5), in(9, 7), in(1, 5)),
		alone(7, -3, none), alone(2, 5, none), alone(0, 5, none), alone(1, 5, none), alone(9, 7, none))
	least, most := -1<<63, 1<<63-1
	wantStaysOf(t, callsOf(callOf(api.OpAcquire, most, 0, most), callOf(api.OpAcquire, least, 0, least), out(most, least), out(least, most)),
		alone(least, least, most), alone(most, most, least))
	var calls []api.Call
	var want []api.Stay
	for i := range 100 {
		calls = append(calls, in(i, 5-i/50))
	}
	for i := range 100 {
		thread := (i + 50) % 100
		want = append(want, alone(thread, 5-thread/50, none))
	}
	wantStaysOf(t, calls, want...)
}

// P24.3: what else the run has is not looked at.
func TestStaysLooksAtNothingElse(t *testing.T) {
	r := api.Run{Calls: callsOf(in(0, 3), out(0, 7))}
	for i := range r.Calls {
		r.Calls[i].Arg, r.Calls[i].Data, r.Calls[i].Point, r.Calls[i].Answer = i, -i, 99, value(4)
	}
	r.Trace, r.Shifts, r.Words = []api.Access{{Move: -3, Thread: 99}}, []api.Shift{{Slot: 88}}, []uint64{9}
	if got, e := locks.Stays(locksOf(1, api.LockNode), r); !slices.Equal(got, []api.Stay{alone(0, 3, 7)}) || e != api.OK {
		t.Errorf("Stays = %+v, %d", got, e)
	}
}

// P24.3: the stays of runs are as the words say, behind every move.
func TestStaysOfRuns(t *testing.T) {
	eachChance(120, func(c api.Locks, moves []api.Move) {
		g := gateOf(t, c)
		for _, mv := range moves[:len(moves)/2] {
			g.m.Move(mv)
			g.wantStays(t, plainStays(g.m.Run())...)
		}
		r := playOf(t, c, moves...)
		if got, e := locks.Stays(c, r); !slices.Equal(got, plainStays(r)) || e != api.OK {
			t.Fatalf("Stays = %+v, %d", got, e)
		}
	})
}
