package locks_test

import (
	"slices"
	"testing"

	"reclaim/api"
	"reclaim/locks"
)

// wrong are locks that may not be: by their threads, by their kind, by both.
func wrong() []api.Locks {
	list := []api.Locks{{}, locksOf(0, 8), locksOf(17, 0), locksOf(-1, -1)}
	for _, n := range []int{0, -1, api.MaxThreads + 1, -1 << 63, 1<<63 - 1} {
		for _, kind := range kinds() {
			list = append(list, locksOf(n, kind))
		}
	}
	for _, n := range []int{0, -1, 8, -1 << 63, 1<<63 - 1} {
		list = append(list, locksOf(1, api.LockKind(n)), locksOf(api.MaxThreads, api.LockKind(n)))
	}
	return list
}

// P24.1: threads within their limits and one beyond them, at each kind and at numbers that are no kind.
func TestCheck(t *testing.T) {
	for threads := -2; threads < 20; threads++ {
		for kind := api.LockKind(-3); kind < 20; kind++ {
			want := api.ErrLocks
			if threads >= 1 && threads <= 16 && kind >= 1 && kind <= 7 {
				want = api.OK
			}
			if e := locks.Check(locksOf(threads, kind)); e != want {
				t.Errorf("Check(%d threads, kind %d) = %d", threads, kind, e)
			}
		}
	}
}

// ErrLocks comes ahead of all others, at every call that has it, and all else is zero beside it.
func TestErrLocks(t *testing.T) {
	played := playOf(t, locksOf(2, api.LockTicket), acquire(0), step(0), step(0), step(0), touch(0), step(0), step(0))
	wild := api.Run{Calls: []api.Call{{Op: api.OpPush, Point: -1}, {Thread: 99, Op: api.OpAcquire}}, Words: []uint64{9, 1}}
	for _, c := range wrong() {
		if e := locks.Check(c); e != api.ErrLocks {
			t.Errorf("Check(%+v) = %d", c, e)
		}
		if words, e := locks.Words(c); words != nil || e != api.ErrLocks {
			t.Errorf("Words(%+v) = %v, %d", c, words, e)
		}
		if m, e := locks.New(c); m != nil || e != api.ErrLocks {
			t.Errorf("New(%+v) = %v, %d", c, m, e)
		}
		for _, moves := range [][]api.Move{nil, {acquire(0), step(0)}, make([]api.Move, api.MaxMoves+1)} {
			if r, e := locks.Play(c, moves); !sameRun(r, api.Run{}) || e != api.ErrLocks {
				t.Errorf("Play(%+v) = %+v, %d", c, r, e)
			}
		}
		for _, r := range []api.Run{{}, wild, played, {Words: []uint64{0}}} {
			if stays, e := locks.Stays(c, r); stays != nil || e != api.ErrLocks {
				t.Errorf("Stays(%+v) = %v, %d", c, stays, e)
			}
			if so, e := locks.Holds(c, r); so || e != api.ErrLocks {
				t.Errorf("Holds(%+v) = %v, %d", c, so, e)
			}
		}
	}
}

// P24.1: so many words each kind has, all 0 but the tail of LockQueue, which is the number of the last node.
func TestWords(t *testing.T) {
	for n := 1; n <= api.MaxThreads; n++ {
		sizes := map[api.LockKind]int{
			api.LockFlag: 2, api.LockTicket: 3, api.LockQueue: 2 + n + 1, api.LockNode: 2 + 2*n,
			api.LockFilter: 1 + n + n - 1, api.LockBakery: 1 + 2*n, api.LockShared: 2,
		}
		for _, kind := range kinds() {
			want := make([]uint64, sizes[kind])
			if kind == api.LockQueue {
				want[1] = uint64(n)
			}
			got, e := locks.Words(locksOf(n, kind))
			if !slices.Equal(got, want) || e != api.OK {
				t.Errorf("Words(%d threads, kind %d) = %d, %d, not %d", n, kind, got, e, want)
			}
		}
	}
}

// P24.2: a machine of so many threads over those words, all of which are idle.
func TestNew(t *testing.T) {
	for _, n := range []int{1, 2, 5, api.MaxThreads} {
		eachKind(t, n, func(t *testing.T, c api.Locks) {
			g := gateOf(t, c)
			words, _ := locks.Words(c)
			wantRun(t, g.m.Run(), api.Run{Words: words})
			wantRun(t, playOf(t, c), g.m.Run())
			if g.m.Moves() != 0 || g.m.Move(acquire(n)) || g.m.Move(acquire(-1)) {
				t.Errorf("%+v has a move or a thread too many", c)
			}
			for thread := range n {
				if g.m.Busy(thread) || g.m.Move(step(thread)) {
					t.Errorf("thread %d is busy", thread)
				}
				g.calls(t, acquire(thread), release(thread))
			}
			g.wantHolds(t)
		})
	}
}

// stood are machines of three threads whose thread 1 is outside, holds the lock alone, or shares it.
func stood(t *testing.T, kind api.LockKind) map[string]*gate {
	t.Helper()
	all := map[string]*gate{"outside": nil, "alone": nil, "sharing": nil}
	for name := range all {
		all[name] = gateOf(t, locksOf(3, kind))
	}
	all["outside"].calls(t, acquire(1), release(1))
	all["alone"].calls(t, acquire(1))
	if kind != api.LockShared {
		delete(all, "sharing")
		return all
	}
	all["outside"].calls(t, share(1), unshare(1))
	all["sharing"].calls(t, share(0), share(1))
	return all
}

// P24.2: which calls are begun, by where the thread stands; all other ops do nothing.
func TestOps(t *testing.T) {
	begun := map[string][]api.Op{
		"outside": {api.OpAcquire}, "alone": {api.OpRelease, api.OpTouch}, "sharing": {api.OpUnshare},
	}
	for _, kind := range kinds() {
		if kind == api.LockShared {
			begun["outside"] = append(begun["outside"], api.OpShare)
		}
		for op := api.Op(-2); op < 300; op++ {
			for name, g := range stood(t, kind) {
				mv := api.Move{Thread: 1, Op: op, Arg: 3, Data: 4}
				if !slices.Contains(begun[name], op) {
					g.refuses(t, mv)
					continue
				}
				ahead := g.m.Run()
				g.make(t, mv)
				ahead.Calls = append(ahead.Calls, api.Call{Thread: 1, Op: op, Arg: 3, Data: 4, Begin: g.now(), End: none, Point: none})
				wantRun(t, g.m.Run(), ahead)
			}
		}
	}
}

// The numbers of the ops: step, and the five.
func TestOpNumbers(t *testing.T) {
	g := gateOf(t, locksOf(1, api.LockShared))
	for _, op := range []api.Op{120, 124, 121, 122, 123} {
		g.calls(t, api.Move{Op: op})
	}
	g.wantWords(t, 1, 0)
	g.wantHolds(t)
}

// A thread stands otherwise at its call's end, not ahead of it; what others do doesn't change where it stands.
func TestStandsByItsOwnCalls(t *testing.T) {
	eachKind(t, 3, func(t *testing.T, c api.Locks) {
		g := gateOf(t, c)
		g.refuses(t, release(0), unshare(0), touch(0), release(1))
		g.make(t, acquire(0))
		g.refuses(t, release(0), touch(0), acquire(0), share(0))
		g.finish(t, 0)
		g.refuses(t, acquire(0), share(0), unshare(0), release(1), touch(1), unshare(1), release(2))
		g.make(t, acquire(1))
		g.refuses(t, release(1), touch(1))
		g.steps(t, 1, 30)
		g.refuses(t, release(1), touch(1), acquire(1))
		g.calls(t, touch(0))
		g.make(t, release(0))
		g.refuses(t, touch(0), release(0), acquire(0))
		for g.m.Busy(0) {
			g.steps(t, 0, 1)
			g.steps(t, 1, 1)
		}
		g.refuses(t, touch(0), release(0), unshare(0))
		g.finish(t, 1)
		g.refuses(t, touch(0), release(0), acquire(1), touch(2))
		g.calls(t, touch(1), release(1))
		g.refuses(t, touch(1), release(1))
		g.wantHolds(t)
	})
}

// LockShared: what a thread that shares, or is about to, may not begin.
func TestSharingStands(t *testing.T) {
	g := gateOf(t, locksOf(2, api.LockShared))
	g.refuses(t, unshare(0))
	g.make(t, share(0), step(0))
	g.refuses(t, unshare(0), acquire(0), touch(0), share(0))
	g.finish(t, 0)
	g.refuses(t, share(0), acquire(0), touch(0), release(0), unshare(1))
	g.make(t, unshare(0), step(0))
	g.refuses(t, unshare(0), touch(0), share(0))
	g.finish(t, 0)
	g.refuses(t, unshare(0), touch(0), release(0))
	g.calls(t, acquire(1))
	g.refuses(t, unshare(1), unshare(0), share(1))
	g.make(t, share(0))
	g.steps(t, 0, 5)
	g.calls(t, touch(1), release(1))
	g.finish(t, 0)
	g.calls(t, share(1), unshare(0), unshare(1))
	g.wantHolds(t)
}

// What an op doesn't use stands in the call as it was given, and changes nothing.
func TestArgAndDataAreNotLookedAt(t *testing.T) {
	eachKind(t, 2, func(t *testing.T, c api.Locks) {
		plain, odd := gateOf(t, c), gateOf(t, c)
		for i, mv := range []api.Move{acquire(0), touch(0), release(0), acquire(1), touch(1), release(1)} {
			plain.calls(t, mv)
			mv.Arg, mv.Data = -1<<63+i, 1<<63-1-i
			odd.calls(t, mv)
			if got := odd.last(mv.Thread); got.Arg != mv.Arg || got.Data != mv.Data {
				t.Errorf("%+v", got)
			}
		}
		a, b := plain.m.Run(), odd.m.Run()
		for i := range b.Calls {
			b.Calls[i].Arg, b.Calls[i].Data = 0, 0
		}
		wantRun(t, b, a)
	})
}

// P24.2: MaxMoves moves are played, one more is refused; also if none of them does anything.
func TestErrLong(t *testing.T) {
	eachKind(t, 2, func(t *testing.T, c api.Locks) {
		for _, mv := range []api.Move{step(0), acquire(0), release(7)} {
			moves := slices.Repeat([]api.Move{mv}, api.MaxMoves+1)
			if r, e := locks.Play(c, moves); !sameRun(r, api.Run{}) || e != api.ErrLong {
				t.Errorf("Play of %d moves = %d", len(moves), e)
			}
			if _, e := locks.Play(c, moves[:api.MaxMoves]); e != api.OK {
				t.Errorf("Play of %d moves = %d", api.MaxMoves, e)
			}
		}
		g := gateOf(t, c)
		g.calls(t, acquire(1))
		need := g.m.Moves()
		moves := append(slices.Repeat([]api.Move{step(1)}, api.MaxMoves-need), acquire(1))
		r := playOf(t, c, append(moves, slices.Repeat([]api.Move{step(1)}, need-1)...)...)
		if len(r.Calls) != 1 || r.Calls[0].End != api.MaxMoves-1 {
			t.Errorf("%+v", r.Calls)
		}
		if so, e := locks.Holds(c, r); !so || e != api.OK {
			t.Errorf("Holds = %v, %d", so, e)
		}
	})
}

// A machine takes no more than MaxMoves moves.
func TestMachineTakesNoMore(t *testing.T) {
	eachKind(t, 2, func(t *testing.T, c api.Locks) {
		g := gateOf(t, c)
		for range api.MaxMoves - 1 {
			g.m.Move(step(0))
		}
		g.make(t, acquire(1))
		if g.m.Move(step(1)) || g.m.Moves() != api.MaxMoves {
			t.Errorf("%d moves", g.m.Moves())
		}
	})
}

// A script as long as may be, in which one thread holds the lock all the time and another one waits.
func TestLongWait(t *testing.T) {
	eachKind(t, 2, func(t *testing.T, c api.Locks) {
		g := gateOf(t, c)
		g.calls(t, acquire(0))
		moves := slices.Repeat([]api.Move{step(0)}, g.m.Moves()-1)
		moves = append([]api.Move{acquire(0)}, append(moves, acquire(1))...)
		moves = append(moves, slices.Repeat([]api.Move{step(1)}, api.MaxMoves-len(moves))...)
		r := playOf(t, c, moves...)
		if len(r.Calls) != 2 || r.Calls[1].End != none || r.Trace[len(r.Trace)-1].Move != api.MaxMoves-1 {
			t.Errorf("%+v", r.Calls)
		}
		if so, e := locks.Holds(c, r); !so || e != api.OK {
			t.Errorf("Holds = %v, %d", so, e)
		}
	})
}

// P24.2: Play makes the moves on a machine of New; two of them have nothing to do with each other.
func TestPlayIsNew(t *testing.T) {
	eachChance(70, func(c api.Locks, moves []api.Move) {
		one, other := gateOf(t, c), gateOf(t, c)
		for i, mv := range moves {
			one.m.Move(mv)
			other.m.Move(moves[len(moves)-1-i])
		}
		wantRun(t, one.m.Run(), playOf(t, c, moves...))
		slices.Reverse(moves)
		wantRun(t, other.m.Run(), playOf(t, c, moves...))
	})
}
