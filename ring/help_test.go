package ring_test

import (
	"slices"
	"testing"

	"reclaim/api"
	"reclaim/machine"
	"reclaim/ring"
)

// ringOf is a ring, told by its numbers.
func ringOf(threads, cells int) api.Ring { return api.Ring{Threads: threads, Cells: cells} }

// example is the chapter's ring.
func example() api.Ring { return ringOf(2, 2) }

// Addresses, told by the chapter's words; a ticket's cell.

const (
	putsAt  = 0
	picksAt = 1
)

func turnAt(c api.Ring, ticket int) int { return 2 + 2*(ticket%c.Cells) }

func valueAt(c api.Ring, ticket int) int { return 3 + 2*(ticket%c.Cells) }

// wheel is a machine.
type wheel struct {
	c api.Ring
	m *machine.Machine
}

func wheelOf(t *testing.T, c api.Ring) *wheel {
	t.Helper()
	m, e := ring.New(c)
	if e != api.OK || m == nil {
		t.Fatalf("New(%+v) = %v, %d", c, m, e)
	}
	return &wheel{c: c, m: m}
}

// filled is a machine behind so many puts that were picked, and puts of these values.
func filled(t *testing.T, c api.Ring, picked int, values ...int) *wheel {
	t.Helper()
	w := wheelOf(t, c)
	for i := range picked {
		w.calls(t, done, put(0, -i))
		w.calls(t, value(-i), pick(0))
	}
	for _, v := range values {
		w.calls(t, done, put(0, v))
	}
	return w
}

// make makes moves, each of which does something.
func (w *wheel) make(t *testing.T, moves ...api.Move) {
	t.Helper()
	for _, mv := range moves {
		if !w.m.Move(mv) {
			t.Fatalf("move %d, %+v, does nothing", w.now(), mv)
		}
	}
}

func (w *wheel) steps(t *testing.T, thread, count int) {
	t.Helper()
	w.make(t, slices.Repeat([]api.Move{step(thread)}, count)...)
}

// finish lets a thread make steps till its call has ended.
func (w *wheel) finish(t *testing.T, thread int) {
	t.Helper()
	for count := 0; w.m.Busy(thread); count++ {
		if count > 8 {
			t.Fatalf("thread %d doesn't come to an end", thread)
		}
		w.steps(t, thread, 1)
	}
}

// call begins a call, lets the thread come to its end alone, and tells what it came to.
func (w *wheel) call(t *testing.T, mv api.Move) api.Call {
	t.Helper()
	w.make(t, mv)
	w.finish(t, mv.Thread)
	return w.last(mv.Thread)
}

// calls makes calls one after the other, each to its end, and asks that each answers so.
func (w *wheel) calls(t *testing.T, want api.Answer, moves ...api.Move) {
	t.Helper()
	for _, mv := range moves {
		if c := w.call(t, mv); c.Answer != want {
			t.Fatalf("%+v, not %+v", c, want)
		}
	}
}

func (w *wheel) last(thread int) api.Call {
	c, _ := w.m.Call(thread)
	return c
}

// now is the number of the last move.
func (w *wheel) now() int { return w.m.Moves() - 1 }

// tells makes a call that a thread makes alone, with these accesses, one a step; point is the number of the
// access that is its point, from 0 on.
func (w *wheel) tells(t *testing.T, mv api.Move, answer api.Answer, point int, accesses ...api.Access) {
	t.Helper()
	w.make(t, mv)
	begin := w.now()
	w.goes(t, accesses...)
	want := api.Call{
		Thread: mv.Thread, Op: mv.Op, Arg: mv.Arg, Data: mv.Data,
		Begin: begin, End: begin + len(accesses), Point: begin + 1 + point, Answer: answer,
	}
	if got := w.last(mv.Thread); got != want || w.m.Busy(mv.Thread) {
		t.Errorf("the call is %+v, not %+v", got, want)
	}
}

// goes lets threads make a step for each of these accesses, and asks that they make just these.
func (w *wheel) goes(t *testing.T, accesses ...api.Access) {
	t.Helper()
	for _, want := range accesses {
		ahead := len(w.m.Run().Trace)
		w.steps(t, want.Thread, 1)
		want.Move = w.now()
		if got := w.m.Run().Trace[ahead:]; len(got) != 1 || got[0] != want {
			t.Fatalf("the accesses are %+v, not %+v", got, want)
		}
	}
}

// ended asks that a thread's call has ended in the last move, with that answer and that point.
func (w *wheel) ended(t *testing.T, thread int, answer api.Answer, point int) {
	t.Helper()
	c := w.last(thread)
	if w.m.Busy(thread) || c.End != w.now() || c.Answer != answer || c.Point != point {
		t.Fatalf("behind move %d the call is %+v, not ended with %+v and the point %d", w.now(), c, answer, point)
	}
}

// pending asks that a thread's call has not ended, tells no answer, and has that point.
func (w *wheel) pending(t *testing.T, thread int, point int) {
	t.Helper()
	c := w.last(thread)
	if !w.m.Busy(thread) || c.End != -1 || c.Answer != (api.Answer{}) || c.Point != point {
		t.Fatalf("behind move %d the call is %+v, not on its way with the point %d", w.now(), c, point)
	}
}

func (w *wheel) wantWords(t *testing.T, want ...uint64) {
	t.Helper()
	if got := w.m.Run().Words; !slices.Equal(got, want) {
		t.Fatalf("behind move %d the words are %d, not %d", w.now(), got, want)
	}
}

func (w *wheel) wantHolds(t *testing.T) {
	t.Helper()
	if so, e := ring.Holds(w.c, w.m.Run()); !so || e != api.OK {
		t.Fatalf("behind move %d: Holds = %v, %d: %+v", w.now(), so, e, w.m.Run().Calls)
	}
}

// Moves.

func step(thread int) api.Move { return api.Move{Thread: thread} }

func put(thread, v int) api.Move { return api.Move{Thread: thread, Op: api.OpPut, Arg: v} }

func pick(thread int) api.Move { return api.Move{Thread: thread, Op: api.OpPick} }

// Answers.

func value(v int) api.Answer { return api.Answer{Kind: api.AnswerValue, Value: v} }

var (
	done  = api.Answer{Kind: api.AnswerDone}
	empty = api.Answer{Kind: api.AnswerEmpty}
	full  = api.Answer{Kind: api.AnswerFull}
)

// Accesses. A word is told as a number.

func load(thread, addr, saw int) api.Access {
	return api.Access{Thread: thread, Kind: api.AccessLoad, Addr: addr, Saw: uint64(saw)}
}

func store(thread, addr, w int) api.Access {
	return api.Access{Thread: thread, Kind: api.AccessStore, Addr: addr, New: uint64(w)}
}

// gets is a swap that gets a ticket, fails one that sees another number.
func gets(thread, addr, ticket int) api.Access { return fails(thread, addr, ticket, ticket) }

func fails(thread, addr, ticket, saw int) api.Access {
	return api.Access{
		Thread: thread, Kind: api.AccessSwap, Addr: addr, Old: uint64(ticket), New: uint64(ticket + 1), Saw: uint64(saw),
	}
}

// through are the accesses of a put that gets a ticket and goes through, taken those of a pick.

func through(c api.Ring, thread, ticket, v int) []api.Access {
	return []api.Access{
		load(thread, putsAt, ticket), load(thread, turnAt(c, ticket), ticket), gets(thread, putsAt, ticket),
		store(thread, valueAt(c, ticket), v), store(thread, turnAt(c, ticket), ticket+1),
	}
}

func taken(c api.Ring, thread, ticket, v int) []api.Access {
	return []api.Access{
		load(thread, picksAt, ticket), load(thread, turnAt(c, ticket), ticket+1), gets(thread, picksAt, ticket),
		load(thread, valueAt(c, ticket), v), store(thread, turnAt(c, ticket), ticket+c.Cells),
	}
}

// Runs.

func playOf(t *testing.T, c api.Ring, moves ...api.Move) api.Run {
	t.Helper()
	r, e := ring.Play(c, moves)
	if e != api.OK {
		t.Fatalf("Play = %d", e)
	}
	return r
}

// sameRun tells whether two runs are the same; nil and empty lists are.
func sameRun(a, b api.Run) bool {
	return slices.Equal(a.Calls, b.Calls) && slices.Equal(a.Trace, b.Trace) &&
		slices.Equal(a.Shifts, b.Shifts) && slices.Equal(a.Words, b.Words)
}

func wantRun(t *testing.T, got, want api.Run) {
	t.Helper()
	if !sameRun(got, want) {
		t.Fatalf("run\n%+v, not\n%+v", got, want)
	}
}

func cloneRun(r api.Run) api.Run {
	return api.Run{
		Calls: slices.Clone(r.Calls), Trace: slices.Clone(r.Trace), Shifts: slices.Clone(r.Shifts), Words: slices.Clone(r.Words),
	}
}

func wantMet(t *testing.T, met map[string]int, least int, what ...string) {
	t.Helper()
	for _, x := range what {
		if met[x] < least {
			t.Errorf("%s: met %d times", x, met[x])
		}
	}
}
