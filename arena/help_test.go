package arena_test

import (
	"slices"
	"testing"

	"reclaim/api"
	"reclaim/arena"
	"reclaim/machine"
	"reclaim/word"
)

// opPart is an op that no chapter has: it begins the part that a test has made.
const opPart api.Op = 999

// configOf is a configuration in which only what the arena looks at is of interest.
func configOf(threads, slots, cache int) api.Config {
	return api.Config{Threads: threads, Records: 2, Hazards: 3, Retire: 1, Cache: cache, Slots: slots, Buckets: 1}
}

// yard is an arena with a machine whose words go with it, and which knows the arena's calls.
type yard struct {
	*arena.Arena
	m    *machine.Machine
	part machine.Task // the one that opPart begins
}

func yardOf(t *testing.T, c api.Config, used int) *yard {
	t.Helper()
	a := arenaOf(t, c, used)
	y := &yard{Arena: a}
	words, e := word.First(c, used)
	if e != api.OK {
		t.Fatalf("First(%+v, %d) = %d", c, used, e)
	}
	kit := machine.Join(a.Kit(), machine.Kit{opPart: func(int, api.Move) machine.Task { return y.part }})
	y.m, e = machine.New(c.Threads, words, kit)
	if e != api.OK {
		t.Fatalf("machine.New = %d", e)
	}
	return y
}

func arenaOf(t *testing.T, c api.Config, used int) *arena.Arena {
	t.Helper()
	a, e := arena.New(c, used)
	if a == nil || e != api.OK {
		t.Fatalf("New(%+v, %d) = %v, %d", c, used, a, e)
	}
	return a
}

// begin begins a part as a thread's call.
func (y *yard) begin(t *testing.T, thread int, part machine.Task) {
	t.Helper()
	y.part = part
	y.make(t, api.Move{Thread: thread, Op: opPart})
}

// make makes moves of which each is to do something.
func (y *yard) make(t *testing.T, moves ...api.Move) {
	t.Helper()
	for _, mv := range moves {
		if !y.m.Move(mv) {
			t.Fatalf("%+v does nothing", mv)
		}
	}
}

// steps lets a thread make steps of which each is to find it busy.
func (y *yard) steps(t *testing.T, thread, count int) {
	t.Helper()
	for range count {
		y.make(t, step(thread))
	}
}

// finish lets a thread make steps till its call has ended, and tells how many.
func (y *yard) finish(t *testing.T, thread int) int {
	t.Helper()
	for count := 0; ; count++ {
		if !y.m.Busy(thread) {
			return count
		}
		if count > 1000 {
			t.Fatalf("thread %d doesn't come to an end", thread)
		}
		y.steps(t, thread, 1)
	}
}

// call begins a call, lets the thread come to its end alone, and tells what it answered.
func (y *yard) call(t *testing.T, mv api.Move) api.Answer {
	t.Helper()
	y.make(t, mv)
	y.finish(t, mv.Thread)
	c, _ := y.m.Call(mv.Thread)
	return c.Answer
}

// at does something at a desk of a thread's, in a step without an access.
func (y *yard) at(t *testing.T, thread int, do func(d *machine.Desk)) {
	t.Helper()
	y.begin(t, thread, &deed{do})
	y.steps(t, thread, 1)
}

// wantState asks for a slot's state and holder.
func (y *yard) wantState(t *testing.T, slot int, state api.State, holder int) {
	t.Helper()
	if s, h, e := y.State(slot); s != state || h != holder || e != api.OK {
		t.Errorf("State(%d) = %d, %d, %d, not %d, %d", slot, s, h, e, state, holder)
	}
}

func (y *yard) wantCache(t *testing.T, thread int, slots ...int) {
	t.Helper()
	if got := y.Cached(thread); !slices.Equal(got, slots) {
		t.Errorf("Cached(%d) = %v, not %v", thread, got, slots)
	}
}

// wantFree asks for the free list, and for its head's tag.
func (y *yard) wantFree(t *testing.T, tag uint32, slots ...int) {
	t.Helper()
	words := y.m.Run().Words
	got, ok := freeList(y.Config(), words)
	if !ok || !slices.Equal(got, slots) || tagOf(words) != tag {
		t.Errorf("the free list has %v (%v) and the tag %d, not %v and %d", got, ok, tagOf(words), slots, tag)
	}
}

// wantTrace asks for the last accesses; their moves are not held against.
func (y *yard) wantTrace(t *testing.T, last ...api.Access) {
	t.Helper()
	trace := y.m.Run().Trace
	if len(trace) < len(last) {
		t.Fatalf("%d accesses, not %d", len(trace), len(last))
	}
	trace = trace[len(trace)-len(last):]
	for i := range trace {
		trace[i].Move = 0
	}
	if !slices.Equal(trace, last) {
		t.Errorf("the last accesses are\n%+v, not\n%+v", trace, last)
	}
}

// deed is a task that does something ahead of its first access, and has ended.
type deed struct {
	do func(d *machine.Desk)
}

func (d *deed) Ready(desk *machine.Desk) bool { d.do(desk); return true }

func (d *deed) Step(*machine.Desk) bool { return true }

func step(thread int) api.Move { return api.Move{Thread: thread, Op: api.OpStep} }

func take(thread int) api.Move { return api.Move{Thread: thread, Op: api.OpTake} }

func give(thread, slot int) api.Move { return api.Move{Thread: thread, Op: api.OpGive, Arg: slot} }

func flush(thread int) api.Move { return api.Move{Thread: thread, Op: api.OpFlush} }

func value(v int) api.Answer { return api.Answer{Kind: api.AnswerValue, Value: v} }

var (
	full = api.Answer{Kind: api.AnswerFull}
	done = api.Answer{Kind: api.AnswerDone}
)

// spareOf is the address of a slot's spare word; the one of Free is 0.
func spareOf(c api.Config, slot int) int {
	addr, _ := word.Addr(c, api.Place{Region: api.RegionSpare, I: slot})
	return addr
}

// head and link are words as chapter 1 packs them, told by hand.
func head(tag, slot int) uint64 { return uint64(tag)<<32 + uint64(slot+1) }

func link(slot int) uint64 { return uint64(slot + 1) }

func tagOf(words []uint64) uint32 { return uint32(words[0] >> 32) }

// freeList goes along the free list; false: it comes to a slot that there isn't, or twice to one.
func freeList(c api.Config, words []uint64) ([]int, bool) {
	var slots []int
	for at := int(words[0]&(1<<32-1)) - 1; at >= 0; at = int(words[spareOf(c, at)]) - 1 {
		if at >= c.Slots || slices.Contains(slots, at) {
			return slots, false
		}
		slots = append(slots, at)
	}
	return slots, true
}

// sameRun tells whether two runs are the same; nil and empty lists are.
func sameRun(a, b api.Run) bool {
	return slices.Equal(a.Calls, b.Calls) && slices.Equal(a.Trace, b.Trace) &&
		slices.Equal(a.Shifts, b.Shifts) && slices.Equal(a.Words, b.Words)
}

func wantRun(t *testing.T, got, want api.Run) {
	t.Helper()
	if !sameRun(got, want) {
		t.Fatalf("run\n%+v, not\n%+v", got, want)
	}
}

// wantOnlyCalls asks that since that run calls were begun and ended, and nothing else was recorded.
func (y *yard) wantOnlyCalls(t *testing.T, before api.Run) {
	t.Helper()
	after := y.m.Run()
	after.Calls = before.Calls
	wantRun(t, after, before)
}
