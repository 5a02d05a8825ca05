package census_test

import (
	"slices"
	"testing"

	"reclaim/api"
	"reclaim/census"
	"reclaim/word"
)

const (
	least    = -1 << 63
	greatest = 1<<63 - 1
)

// Answers.

func value(v int) api.Answer { return api.Answer{Kind: api.AnswerValue, Value: v} }

var (
	none = api.Answer{Kind: api.AnswerNone}
	full = api.Answer{Kind: api.AnswerFull}
	done = api.Answer{Kind: api.AnswerDone}
)

// Configurations.

func configOf(threads, records, hazards, retire, cache, slots, buckets int) api.Config {
	return api.Config{Threads: threads, Records: records, Hazards: hazards, Retire: retire, Cache: cache, Slots: slots, Buckets: buckets}
}

// tiny is the configuration of the chapter's bounds, small the one of chapter 5's examples.
func tiny() api.Config { return configOf(1, 1, 3, 1, 0, 2, 1) }

func small() api.Config { return configOf(2, 2, 3, 1, 0, 3, 1) }

// badConfigs has, for each number, configurations in which just that one is out of its limits.
func badConfigs() []api.Config {
	out := []api.Config{{}}
	limits := [7][2]int{{1, 16}, {1, 16}, {3, 8}, {1, 1024}, {0, 64}, {1, 1024}, {1, 64}}
	for i, limit := range limits {
		for _, n := range []int{limit[0] - 1, limit[1] + 1, least, greatest, 1<<32 + limit[0]} {
			l := [7]int{2, 2, 3, 1, 0, 3, 1}
			l[i] = n
			out = append(out, configOf(l[0], l[1], l[2], l[3], l[4], l[5], l[6]))
		}
	}
	return out
}

func addrOf(c api.Config, r api.Region, i, k int) int {
	addr, _ := word.Addr(c, api.Place{Region: r, I: i, K: k})
	return addr
}

// link is the plain link to a slot.
func link(slot int) uint64 { return uint64(slot + 1) }

// Calls.

// call is one that has ended and has no point.
func call(thread int, op api.Op, begin, end int, a api.Answer) api.Call {
	return api.Call{Thread: thread, Op: op, Begin: begin, End: end, Point: -1, Answer: a}
}

// open is one that has not ended and has no point.
func open(thread int, op api.Op, begin int) api.Call {
	return api.Call{Thread: thread, Op: op, Begin: begin, End: -1, Point: -1}
}

func at(point int, c api.Call) api.Call {
	c.Point = point
	return c
}

// tale is a run that is written by hand; its parts go together if its moves and threads do.
type tale struct {
	c      api.Config
	used   int
	r      api.Run
	states []api.State
}

func taleOf(c api.Config, used int, calls ...api.Call) *tale {
	words, _ := word.First(c, used)
	x := &tale{c: c, used: used, r: api.Run{Calls: calls, Words: words}, states: make([]api.State, c.Slots)}
	for i := range used {
		x.states[i] = api.StateLinked
	}
	return x
}

func (x *tale) load(move, thread, addr int) *tale {
	x.r.Trace = append(x.r.Trace, api.Access{Move: move, Thread: thread, Kind: api.AccessLoad, Addr: addr, Saw: x.r.Words[addr]})
	return x
}

func (x *tale) store(move, thread, addr int, w uint64) *tale {
	x.r.Trace = append(x.r.Trace, api.Access{Move: move, Thread: thread, Kind: api.AccessStore, Addr: addr, New: w})
	x.r.Words[addr] = w
	return x
}

// swap succeeds or fails as the word is.
func (x *tale) swap(move, thread, addr int, old, w uint64) *tale {
	saw := x.r.Words[addr]
	x.r.Trace = append(x.r.Trace, api.Access{Move: move, Thread: thread, Kind: api.AccessSwap, Addr: addr, Old: old, New: w, Saw: saw})
	if saw == old {
		x.r.Words[addr] = w
	}
	return x
}

// shift lets a slot go, in one move, from the state that it is in to others.
func (x *tale) shift(move, thread, slot int, to ...api.State) *tale {
	for _, s := range to {
		x.r.Shifts = append(x.r.Shifts, api.Shift{Move: move, Thread: thread, Slot: slot, From: x.states[slot], To: s})
		x.states[slot] = s
	}
	return x
}

// Asking.

func (x *tale) wantMay(t *testing.T, what string, want bool) {
	t.Helper()
	if got := census.May(x.c, x.used, x.r); got != want {
		t.Errorf("%s: May(%+v, %d, %+v) = %v", what, x.c, x.used, x.r, got)
	}
}

func (x *tale) wantStates(t *testing.T, moves int, states []api.State, holders []int) {
	t.Helper()
	s, h, e := census.States(x.c, x.used, x.r, moves)
	if e != api.OK || !slices.Equal(s, states) || !slices.Equal(h, holders) {
		t.Errorf("States(%+v, %d) = %v, %v, %d, not %v, %v", x.r, moves, s, h, e, states, holders)
	}
}

func (x *tale) wantFaults(t *testing.T, what string, want ...api.Fault) {
	t.Helper()
	if got, e := census.Faults(x.c, x.used, x.r); e != api.OK || !slices.Equal(got, want) {
		t.Errorf("%s: Faults(%+v) = %v, %d, not %v", what, x.r, got, e, want)
	}
}

func (x *tale) wantPeaks(t *testing.T, what string, want api.Peaks) {
	t.Helper()
	if got, e := census.Peaks(x.c, x.used, x.r); e != api.OK || got != want {
		t.Errorf("%s: Peaks(%+v) = %+v, %d, not %+v", what, x.r, got, e, want)
	}
}

func (x *tale) wantDishonest(t *testing.T, what string, want ...int) {
	t.Helper()
	if got, e := census.Dishonest(x.c, x.used, x.r); e != api.OK || !slices.Equal(got, want) {
		t.Errorf("%s: Dishonest(%+v) = %v, %d, not %v", what, x.r, got, e, want)
	}
}

// wantRefused asks each call that is given a run for an error, with nothing beside it; May answers false.
func wantRefused(t *testing.T, what string, c api.Config, used int, r api.Run, want api.Errno) {
	t.Helper()
	if census.May(c, used, r) {
		t.Errorf("%s: May(%+v, %d, %+v)", what, c, used, r)
	}
	for _, moves := range []int{0, 1, -1, least, greatest} {
		if s, h, e := census.States(c, used, r, moves); len(s) != 0 || len(h) != 0 || e != want {
			t.Errorf("%s: States(%d) = %v, %v, %d, not %d", what, moves, s, h, e, want)
		}
	}
	if l, e := census.Faults(c, used, r); len(l) != 0 || e != want {
		t.Errorf("%s: Faults = %v, %d, not %d", what, l, e, want)
	}
	if p, e := census.Peaks(c, used, r); p != (api.Peaks{}) || e != want {
		t.Errorf("%s: Peaks = %+v, %d, not %d", what, p, e, want)
	}
	if l, e := census.Dishonest(c, used, r); len(l) != 0 || e != want {
		t.Errorf("%s: Dishonest = %v, %d, not %d", what, l, e, want)
	}
}

func (x *tale) wantRefused(t *testing.T, what string) {
	t.Helper()
	wantRefused(t, what, x.c, x.used, x.r, api.ErrRun)
}

// faults are the faults of a run that goes together.
func (x *tale) faults(t *testing.T) []api.Fault {
	t.Helper()
	l, e := census.Faults(x.c, x.used, x.r)
	if e != api.OK {
		t.Fatalf("Faults(%+v) = %d", x.r, e)
	}
	return l
}
