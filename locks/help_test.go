package locks_test

import (
	"slices"
	"testing"

	"reclaim/api"
	"reclaim/locks"
	"reclaim/machine"
)

func locksOf(threads int, kind api.LockKind) api.Locks {
	return api.Locks{Threads: threads, Kind: kind}
}

func kinds() []api.LockKind {
	return []api.LockKind{
		api.LockFlag, api.LockTicket, api.LockQueue, api.LockNode, api.LockFilter, api.LockBakery, api.LockShared,
	}
}

// eachKind goes through all kinds.
func eachKind(t *testing.T, threads int, do func(t *testing.T, c api.Locks)) {
	names := []string{"flag", "ticket", "queue", "node", "filter", "bakery", "shared"}
	for i, kind := range kinds() {
		t.Run(names[i], func(t *testing.T) { do(t, locksOf(threads, kind)) })
	}
}

// gate is a machine.
type gate struct {
	c api.Locks
	m *machine.Machine
}

func gateOf(t *testing.T, c api.Locks) *gate {
	t.Helper()
	m, e := locks.New(c)
	if e != api.OK || m == nil {
		t.Fatalf("New(%+v) = %v, %d", c, m, e)
	}
	return &gate{c: c, m: m}
}

// make makes moves, each of which does something.
func (g *gate) make(t *testing.T, moves ...api.Move) {
	t.Helper()
	for _, mv := range moves {
		if !g.m.Move(mv) {
			t.Fatalf("move %d, %+v, does nothing", g.now(), mv)
		}
	}
}

func (g *gate) steps(t *testing.T, thread, count int) {
	t.Helper()
	g.make(t, slices.Repeat([]api.Move{step(thread)}, count)...)
}

// finish lets a thread make steps till its call has ended.
func (g *gate) finish(t *testing.T, thread int) {
	t.Helper()
	for count := 0; g.m.Busy(thread); count++ {
		if count > 600 {
			t.Fatalf("thread %d doesn't come to an end", thread)
		}
		g.steps(t, thread, 1)
	}
}

// calls makes calls one after the other, each to its end.
func (g *gate) calls(t *testing.T, moves ...api.Move) {
	t.Helper()
	for _, mv := range moves {
		g.make(t, mv)
		g.finish(t, mv.Thread)
	}
}

// refuses asks that none of these begins anything.
func (g *gate) refuses(t *testing.T, moves ...api.Move) {
	t.Helper()
	for _, mv := range moves {
		ahead := g.m.Run()
		if g.m.Move(mv) {
			t.Fatalf("move %d, %+v, is not refused", g.now(), mv)
		}
		wantRun(t, g.m.Run(), ahead)
	}
}

func (g *gate) last(thread int) api.Call {
	c, _ := g.m.Call(thread)
	return c
}

// now is the number of the last move.
func (g *gate) now() int { return g.m.Moves() - 1 }

// tells makes a call that a thread makes alone, with these accesses, one a step; point is the number of the
// access that is its point, from 0 on, or none.
func (g *gate) tells(t *testing.T, mv api.Move, answer api.Answer, point int, accesses ...api.Access) {
	t.Helper()
	g.make(t, mv)
	begin := g.now()
	g.goes(t, accesses...)
	if point != none {
		point += begin + 1
	}
	want := api.Call{
		Thread: mv.Thread, Op: mv.Op, Arg: mv.Arg, Data: mv.Data,
		Begin: begin, End: begin + len(accesses), Point: point, Answer: answer,
	}
	if got := g.last(mv.Thread); got != want || g.m.Busy(mv.Thread) {
		t.Fatalf("the call is %+v, not %+v", got, want)
	}
}

// goes lets threads make a step for each of these accesses, and asks that they make just these.
func (g *gate) goes(t *testing.T, accesses ...api.Access) {
	t.Helper()
	for _, want := range accesses {
		ahead := len(g.m.Run().Trace)
		g.steps(t, want.Thread, 1)
		want.Move = g.now()
		if got := g.m.Run().Trace[ahead:]; len(got) != 1 || got[0] != want {
			t.Fatalf("the accesses are %+v, not %+v", got, want)
		}
	}
}

// ended asks that a thread's call has ended in the last move, with that answer and that point.
func (g *gate) ended(t *testing.T, thread int, answer api.Answer, point int) {
	t.Helper()
	c := g.last(thread)
	if g.m.Busy(thread) || c.End != g.now() || c.Answer != answer || c.Point != point {
		t.Fatalf("behind move %d the call is %+v, not ended with %+v and the point %d", g.now(), c, answer, point)
	}
}

// pending asks that a thread's call has not ended, tells no answer, and has that point.
func (g *gate) pending(t *testing.T, thread int, point int) {
	t.Helper()
	c := g.last(thread)
	if !g.m.Busy(thread) || c.End != none || c.Answer != (api.Answer{}) || c.Point != point {
		t.Fatalf("behind move %d the call is %+v, not on its way with the point %d", g.now(), c, point)
	}
}

func (g *gate) wantWords(t *testing.T, want ...int) {
	t.Helper()
	if got := g.m.Run().Words; !slices.Equal(got, numbers(want...)) {
		t.Fatalf("behind move %d the words are %d, not %d", g.now(), got, want)
	}
}

func (g *gate) wantHolds(t *testing.T) {
	t.Helper()
	if so, e := locks.Holds(g.c, g.m.Run()); !so || e != api.OK {
		t.Fatalf("behind move %d: Holds = %v, %d: %+v", g.now(), so, e, g.m.Run())
	}
}

func (g *gate) wantStays(t *testing.T, want ...api.Stay) {
	t.Helper()
	if got, e := locks.Stays(g.c, g.m.Run()); !slices.Equal(got, want) || e != api.OK {
		t.Fatalf("Stays = %+v, %d, not %+v", got, e, want)
	}
}

// none is no point, no end.
const none = -1

// Moves.

func step(thread int) api.Move { return api.Move{Thread: thread} }

func acquire(thread int) api.Move { return api.Move{Thread: thread, Op: api.OpAcquire} }

func release(thread int) api.Move { return api.Move{Thread: thread, Op: api.OpRelease} }

func share(thread int) api.Move { return api.Move{Thread: thread, Op: api.OpShare} }

func unshare(thread int) api.Move { return api.Move{Thread: thread, Op: api.OpUnshare} }

func touch(thread int) api.Move { return api.Move{Thread: thread, Op: api.OpTouch} }

// Answers.

func value(v int) api.Answer { return api.Answer{Kind: api.AnswerValue, Value: v} }

var done = api.Answer{Kind: api.AnswerDone}

// Accesses. A word is told as a number.

func load(thread, addr, saw int) api.Access {
	return api.Access{Thread: thread, Kind: api.AccessLoad, Addr: addr, Saw: uint64(saw)}
}

func store(thread, addr, w int) api.Access {
	return api.Access{Thread: thread, Kind: api.AccessStore, Addr: addr, New: uint64(w)}
}

// swap is one that succeeds, fails one that sees another word.
func swap(thread, addr, old, w int) api.Access { return fails(thread, addr, old, w, old) }

func fails(thread, addr, old, w, saw int) api.Access {
	return api.Access{
		Thread: thread, Kind: api.AccessSwap, Addr: addr, Old: uint64(old), New: uint64(w), Saw: uint64(saw),
	}
}

// numbers are words, told as numbers.
func numbers(list ...int) []uint64 {
	words := make([]uint64, len(list))
	for i, n := range list {
		words[i] = uint64(n)
	}
	return words
}

// Runs.

func playOf(t *testing.T, c api.Locks, moves ...api.Move) api.Run {
	t.Helper()
	r, e := locks.Play(c, moves)
	if e != api.OK {
		t.Fatalf("Play = %d", e)
	}
	return r
}

// sameRun tells whether two runs are the same; nil and empty lists are.
func sameRun(a, b api.Run) bool {
	return slices.Equal(a.Calls, b.Calls) && slices.Equal(a.Trace, b.Trace) &&
		slices.Equal(a.Shifts, b.Shifts) && slices.Equal(a.Words, b.Words)
}

func wantRun(t *testing.T, got, want api.Run) {
	t.Helper()
	if !sameRun(got, want) {
		t.Fatalf("run\n%+v, not\n%+v", got, want)
	}
}

func cloneRun(r api.Run) api.Run {
	return api.Run{
		Calls: slices.Clone(r.Calls), Trace: slices.Clone(r.Trace), Shifts: slices.Clone(r.Shifts), Words: slices.Clone(r.Words),
	}
}

func wantMet(t *testing.T, met map[string]int, least int, what ...string) {
	t.Helper()
	for _, x := range what {
		if met[x] < least {
			t.Errorf("%s: met %d times", x, met[x])
		}
	}
}
