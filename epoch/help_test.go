package epoch_test

import (
	"slices"
	"testing"

	"reclaim/api"
	"reclaim/epoch"
	"reclaim/machine"
)

// configOf has one record, three hazards and one bucket: so the slots' words begin at address 11.
func configOf(threads, retire, cache, slots int) api.Config {
	return api.Config{Threads: threads, Records: 1, Hazards: 3, Retire: retire, Cache: cache, Slots: slots, Buckets: 1}
}

// example is the chapter's configuration.
func example() api.Config { return configOf(2, 2, 0, 3) }

// Addresses, told by the chapters' words.

const (
	freeAt = 0
	topAt  = 2
)

func slotsAt(c api.Config) int { return 6 + c.Buckets + c.Records + c.Records*c.Hazards }

func spareAt(c api.Config, slot int) int { return slotsAt(c) + slot }

func valueAt(c api.Config, slot int) int { return slotsAt(c) + c.Slots + slot }

func linkAt(c api.Config, slot int) int { return slotsAt(c) + 3*c.Slots + slot }

func epochAt(c api.Config) int { return slotsAt(c) + 4*c.Slots }

func localAt(c api.Config, thread int) int { return epochAt(c) + 1 + thread }

// yard is a machine.
type yard struct {
	c api.Config
	m *machine.Machine
}

func yardOf(t *testing.T, c api.Config) *yard {
	t.Helper()
	m, e := epoch.New(c)
	if e != api.OK {
		t.Fatalf("New(%+v) = %d", c, e)
	}
	return &yard{c: c, m: m}
}

// make makes moves, each of which does something.
func (y *yard) make(t *testing.T, moves ...api.Move) {
	t.Helper()
	for _, mv := range moves {
		if !y.m.Move(mv) {
			t.Fatalf("move %d, %+v, does nothing", y.m.Moves()-1, mv)
		}
	}
}

func (y *yard) steps(t *testing.T, thread, count int) {
	t.Helper()
	y.make(t, slices.Repeat([]api.Move{step(thread)}, count)...)
}

// finish lets a thread make steps till its call has ended.
func (y *yard) finish(t *testing.T, thread int) {
	t.Helper()
	for count := 0; y.m.Busy(thread); count++ {
		if count > 20000 {
			t.Fatalf("thread %d doesn't come to an end", thread)
		}
		y.steps(t, thread, 1)
	}
}

// call begins a call, lets the thread come to its end alone, and tells what it came to.
func (y *yard) call(t *testing.T, mv api.Move) api.Call {
	t.Helper()
	y.make(t, mv)
	y.finish(t, mv.Thread)
	return y.last(mv.Thread)
}

// calls makes calls one after the other, each to its end, and asks that each answers so.
func (y *yard) calls(t *testing.T, want api.Answer, moves ...api.Move) {
	t.Helper()
	for _, mv := range moves {
		if c := y.call(t, mv); c.Answer != want {
			t.Fatalf("%+v, not %+v", c, want)
		}
	}
}

func (y *yard) last(thread int) api.Call {
	c, _ := y.m.Call(thread)
	return c
}

func (y *yard) word(addr int) uint64 { return y.m.Run().Words[addr] }

// story is what a call comes to that a thread makes alone.
type story struct {
	answer api.Answer
	point  int          // the number of the access that is its point, from 0 on; -1: none
	seen   []api.Access // one a step; their moves are not told
	shifts []api.Shift  // their moves are the numbers of the accesses behind which they are
}

// tells makes a call, and asks that it is the story.
func (y *yard) tells(t *testing.T, mv api.Move, s story) {
	t.Helper()
	y.make(t, mv)
	begin := y.m.Moves() - 1
	ahead := y.m.Run()
	for range s.seen {
		y.steps(t, mv.Thread, 1)
	}
	want := api.Call{
		Thread: mv.Thread, Op: mv.Op, Arg: mv.Arg, Data: mv.Data,
		Begin: begin, End: begin + len(s.seen), Point: -1, Answer: s.answer,
	}
	if s.point >= 0 {
		want.Point = begin + 1 + s.point
	}
	if got := y.last(mv.Thread); got != want {
		t.Errorf("the call is %+v, not %+v", got, want)
	}
	run := y.m.Run()
	for i := range s.seen {
		s.seen[i].Move = begin + 1 + i
	}
	if got := run.Trace[len(ahead.Trace):]; !slices.Equal(got, s.seen) {
		t.Errorf("the accesses are\n%+v, not\n%+v", got, s.seen)
	}
	for i := range s.shifts {
		s.shifts[i].Move += begin + 1
	}
	if got := run.Shifts[len(ahead.Shifts):]; !slices.Equal(got, s.shifts) {
		t.Errorf("the shifts are\n%+v, not\n%+v", got, s.shifts)
	}
}

// goes lets a thread make a step for each of these accesses, and asks that it makes just these.
func (y *yard) goes(t *testing.T, accesses ...api.Access) {
	t.Helper()
	for _, want := range accesses {
		ahead := len(y.m.Run().Trace)
		y.steps(t, want.Thread, 1)
		want.Move = y.m.Moves() - 1
		if got := y.m.Run().Trace[ahead:]; len(got) != 1 || got[0] != want {
			t.Fatalf("the accesses are %+v, not %+v", got, want)
		}
	}
}

// ended asks that a thread's call has ended in the last move, with that answer and that point.
func (y *yard) ended(t *testing.T, thread int, answer api.Answer, point int) {
	t.Helper()
	c := y.last(thread)
	if y.m.Busy(thread) || c.End != y.m.Moves()-1 || c.Answer != answer || c.Point != point {
		t.Fatalf("behind move %d the call is %+v, not ended with %+v and the point %d", y.m.Moves()-1, c, answer, point)
	}
}

// now is the number of the last move.
func (y *yard) now() int { return y.m.Moves() - 1 }

// wantStack asks what the stack's values are, the top's first.
func (y *yard) wantStack(t *testing.T, values ...int) {
	t.Helper()
	if got := valuesOf(y.c, y.m.Run().Words); !slices.Equal(got, values) {
		t.Errorf("the stack is %v, not %v", got, values)
	}
}

// valuesOf are the values along the links from Top on; at most one more than there are slots.
func valuesOf(c api.Config, words []uint64) []int {
	var values []int
	for w := words[topAt]; w != 0 && len(values) <= c.Slots; w = words[linkAt(c, int(w)-1)] {
		values = append(values, int(words[valueAt(c, int(w)-1)]))
	}
	return values
}

// wantFree asks which slots the free list has, in its order.
func (y *yard) wantFree(t *testing.T, slots ...int) {
	t.Helper()
	if got := freeOf(y.c, y.m.Run().Words); !slices.Equal(got, slots) {
		t.Errorf("the free list is %v, not %v", got, slots)
	}
}

func freeOf(c api.Config, words []uint64) []int {
	var slots []int
	for w := words[freeAt] & (1<<32 - 1); w != 0 && len(slots) <= c.Slots; w = words[spareAt(c, int(w)-1)] {
		slots = append(slots, int(w)-1)
	}
	return slots
}

// Moves.

func step(thread int) api.Move { return api.Move{Thread: thread} }

func pin(thread int) api.Move { return api.Move{Thread: thread, Op: api.OpPin} }

func unpin(thread int) api.Move { return api.Move{Thread: thread, Op: api.OpUnpin} }

func stow(thread, value int) api.Move { return api.Move{Thread: thread, Op: api.OpStow, Arg: value} }

func draw(thread int) api.Move { return api.Move{Thread: thread, Op: api.OpDraw} }

func advance(thread int) api.Move { return api.Move{Thread: thread, Op: api.OpAdvance} }

func collect(thread int) api.Move { return api.Move{Thread: thread, Op: api.OpCollect} }

// Answers.

func value(v int) api.Answer { return api.Answer{Kind: api.AnswerValue, Value: v} }

var (
	done  = api.Answer{Kind: api.AnswerDone}
	empty = api.Answer{Kind: api.AnswerEmpty}
	full  = api.Answer{Kind: api.AnswerFull}
	yes   = api.Answer{Kind: api.AnswerYes}
	no    = api.Answer{Kind: api.AnswerNo}
)

// Accesses and shifts.

func load(thread, addr int, saw uint64) api.Access {
	return api.Access{Thread: thread, Kind: api.AccessLoad, Addr: addr, Saw: saw}
}

func store(thread, addr int, w uint64) api.Access {
	return api.Access{Thread: thread, Kind: api.AccessStore, Addr: addr, New: w}
}

// swap is one that succeeds, fails one that sees another word.
func swap(thread, addr int, old, w uint64) api.Access {
	return api.Access{Thread: thread, Kind: api.AccessSwap, Addr: addr, Old: old, New: w, Saw: old}
}

func fails(thread, addr int, old, w, saw uint64) api.Access {
	return api.Access{Thread: thread, Kind: api.AccessSwap, Addr: addr, Old: old, New: w, Saw: saw}
}

func shift(access, thread, slot int, from, to api.State) api.Shift {
	return api.Shift{Move: access, Thread: thread, Slot: slot, From: from, To: to}
}

// head and link are words as chapter 1 packs them, told by hand.
func head(tag, slot int) uint64 { return uint64(tag)<<32 + uint64(slot+1) }

func link(slot int) uint64 { return uint64(slot + 1) }

// Runs.

func playOf(t *testing.T, c api.Config, moves ...api.Move) api.Run {
	t.Helper()
	r, e := epoch.Play(c, moves)
	if e != api.OK {
		t.Fatalf("Play = %d", e)
	}
	return r
}

// sameRun tells whether two runs are the same; nil and empty lists are.
func sameRun(a, b api.Run) bool {
	return slices.Equal(a.Calls, b.Calls) && slices.Equal(a.Trace, b.Trace) &&
		slices.Equal(a.Shifts, b.Shifts) && slices.Equal(a.Words, b.Words)
}

func wantRun(t *testing.T, got, want api.Run) {
	t.Helper()
	if !sameRun(got, want) {
		t.Fatalf("run\n%+v, not\n%+v", got, want)
	}
}
