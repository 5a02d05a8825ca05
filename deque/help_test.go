package deque_test

import (
	"slices"
	"testing"

	"reclaim/api"
	"reclaim/deque"
	"reclaim/machine"
)

// dequeOf is a deque, told by its numbers.
func dequeOf(threads, room int) api.Deque { return api.Deque{Threads: threads, Room: room} }

// example is the chapter's deque.
func example() api.Deque { return dequeOf(2, 2) }

// Addresses, told by the chapter's words.

const (
	topAt    = 0
	bottomAt = 1
)

func cellAt(d api.Deque, number int) int { return 2 + number%d.Room }

// yard is a machine.
type yard struct {
	d api.Deque
	m *machine.Machine
}

func yardOf(t *testing.T, d api.Deque) *yard {
	t.Helper()
	m, e := deque.New(d)
	if e != api.OK {
		t.Fatalf("New(%+v) = %d", d, e)
	}
	return &yard{d: d, m: m}
}

// filled is a machine whose deque has these values, the first of which has the number top.
func filled(t *testing.T, d api.Deque, top int, values ...int) *yard {
	t.Helper()
	y := yardOf(t, d)
	for i := range top {
		y.calls(t, done, push(-i))
		y.calls(t, value(-i), steal(0))
	}
	for _, v := range values {
		y.calls(t, done, push(v))
	}
	y.wantLeft(t, values...)
	return y
}

// make makes moves, each of which does something.
func (y *yard) make(t *testing.T, moves ...api.Move) {
	t.Helper()
	for _, mv := range moves {
		if !y.m.Move(mv) {
			t.Fatalf("move %d, %+v, does nothing", y.m.Moves()-1, mv)
		}
	}
}

func (y *yard) steps(t *testing.T, thread, count int) {
	t.Helper()
	y.make(t, slices.Repeat([]api.Move{step(thread)}, count)...)
}

// finish lets a thread make steps till its call has ended.
func (y *yard) finish(t *testing.T, thread int) {
	t.Helper()
	for count := 0; y.m.Busy(thread); count++ {
		if count > 7 {
			t.Fatalf("thread %d doesn't come to an end", thread)
		}
		y.steps(t, thread, 1)
	}
}

// call begins a call, lets the thread come to its end alone, and tells what it came to.
func (y *yard) call(t *testing.T, mv api.Move) api.Call {
	t.Helper()
	y.make(t, mv)
	y.finish(t, mv.Thread)
	return y.last(mv.Thread)
}

// calls makes calls one after the other, each to its end, and asks that each answers so.
func (y *yard) calls(t *testing.T, want api.Answer, moves ...api.Move) {
	t.Helper()
	for _, mv := range moves {
		if c := y.call(t, mv); c.Answer != want {
			t.Fatalf("%+v, not %+v", c, want)
		}
	}
}

func (y *yard) last(thread int) api.Call {
	c, _ := y.m.Call(thread)
	return c
}

// tells makes a call that a thread makes alone, with these accesses, one a step; point is the number of the
// access that is its point, from 0 on.
func (y *yard) tells(t *testing.T, mv api.Move, answer api.Answer, point int, accesses ...api.Access) {
	t.Helper()
	y.make(t, mv)
	begin := y.now()
	y.goes(t, accesses...)
	want := api.Call{
		Thread: mv.Thread, Op: mv.Op, Arg: mv.Arg, Data: mv.Data,
		Begin: begin, End: begin + len(accesses), Point: begin + 1 + point, Answer: answer,
	}
	if got := y.last(mv.Thread); got != want {
		t.Errorf("the call is %+v, not %+v", got, want)
	}
}

// goes lets threads make a step for each of these accesses, and asks that they make just these.
func (y *yard) goes(t *testing.T, accesses ...api.Access) {
	t.Helper()
	for _, want := range accesses {
		ahead := len(y.m.Run().Trace)
		y.steps(t, want.Thread, 1)
		want.Move = y.now()
		if got := y.m.Run().Trace[ahead:]; len(got) != 1 || got[0] != want {
			t.Fatalf("the accesses are %+v, not %+v", got, want)
		}
	}
}

// ended asks that a thread's call has ended in the last move, with that answer and that point.
func (y *yard) ended(t *testing.T, thread int, answer api.Answer, point int) {
	t.Helper()
	c := y.last(thread)
	if y.m.Busy(thread) || c.End != y.now() || c.Answer != answer || c.Point != point {
		t.Fatalf("behind move %d the call is %+v, not ended with %+v and the point %d", y.now(), c, answer, point)
	}
}

// pending asks that a thread's call has not ended, tells no answer, and has that point.
func (y *yard) pending(t *testing.T, thread int, point int) {
	t.Helper()
	c := y.last(thread)
	if !y.m.Busy(thread) || c.End != -1 || c.Answer != (api.Answer{}) || c.Point != point {
		t.Fatalf("behind move %d the call is %+v, not on its way with the point %d", y.now(), c, point)
	}
}

// now is the number of the last move.
func (y *yard) now() int { return y.m.Moves() - 1 }

func (y *yard) wantLeft(t *testing.T, values ...int) {
	t.Helper()
	wantLeft(t, y.d, y.m.Run().Words, values...)
}

func (y *yard) wantHolds(t *testing.T) {
	t.Helper()
	if so, e := deque.Holds(y.d, y.m.Run()); !so || e != api.OK {
		t.Fatalf("behind move %d: Holds = %v, %d: %+v", y.now(), so, e, y.m.Run().Calls)
	}
}

func wantLeft(t *testing.T, d api.Deque, words []uint64, values ...int) {
	t.Helper()
	if got, e := deque.Left(d, words); !slices.Equal(got, values) || e != api.OK {
		t.Errorf("Left(%+v, %v) = %v, %d, not %v", d, words, got, e, values)
	}
}

// Moves.

func step(thread int) api.Move { return api.Move{Thread: thread} }

func push(value int) api.Move { return api.Move{Op: api.OpDequePush, Arg: value} }

func take() api.Move { return api.Move{Op: api.OpDequeTake} }

func steal(thread int) api.Move { return api.Move{Thread: thread, Op: api.OpSteal} }

// Answers.

func value(v int) api.Answer { return api.Answer{Kind: api.AnswerValue, Value: v} }

var (
	done  = api.Answer{Kind: api.AnswerDone}
	empty = api.Answer{Kind: api.AnswerEmpty}
	full  = api.Answer{Kind: api.AnswerFull}
)

// Accesses. A word is told as a number.

func load(thread, addr, saw int) api.Access {
	return api.Access{Thread: thread, Kind: api.AccessLoad, Addr: addr, Saw: uint64(saw)}
}

func store(thread, addr, w int) api.Access {
	return api.Access{Thread: thread, Kind: api.AccessStore, Addr: addr, New: uint64(w)}
}

// rise is a swap of top that succeeds, fails one that sees another word.
func rise(thread, from int) api.Access {
	return fails(thread, from, from)
}

func fails(thread, from, saw int) api.Access {
	return api.Access{
		Thread: thread, Kind: api.AccessSwap, Addr: topAt, Old: uint64(from), New: uint64(from + 1), Saw: uint64(saw),
	}
}

// Runs.

func playOf(t *testing.T, d api.Deque, moves ...api.Move) api.Run {
	t.Helper()
	r, e := deque.Play(d, moves)
	if e != api.OK {
		t.Fatalf("Play = %d", e)
	}
	return r
}

// sameRun tells whether two runs are the same; nil and empty lists are.
func sameRun(a, b api.Run) bool {
	return slices.Equal(a.Calls, b.Calls) && slices.Equal(a.Trace, b.Trace) &&
		slices.Equal(a.Shifts, b.Shifts) && slices.Equal(a.Words, b.Words)
}

func wantRun(t *testing.T, got, want api.Run) {
	t.Helper()
	if !sameRun(got, want) {
		t.Fatalf("run\n%+v, not\n%+v", got, want)
	}
}
