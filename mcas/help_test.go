package mcas_test

import (
	"slices"
	"testing"

	"reclaim/api"
	"reclaim/machine"
	"reclaim/mcas"
)

// example is the chapter's memory.
func example() api.Multi {
	return api.Multi{Threads: 2, Cells: []int{5, 6, 7}, Swaps: [][]api.MultiEntry{{{Cell: 0, Old: 5, New: 8}, {Cell: 2, Old: 7, New: 9}}}, Uses: 2}
}

// swapOf is a swap of these entries, each of which is a cell, its Old and its New.
func swapOf(entries ...[3]int) []api.MultiEntry {
	var swap []api.MultiEntry
	for _, e := range entries {
		swap = append(swap, api.MultiEntry{Cell: e[0], Old: e[1], New: e[2]})
	}
	return swap
}

// cloneMulti shares nothing with what it is a copy of.
func cloneMulti(c api.Multi) api.Multi {
	c.Cells = slices.Clone(c.Cells)
	c.Swaps = slices.Clone(c.Swaps)
	for i, swap := range c.Swaps {
		c.Swaps[i] = slices.Clone(swap)
	}
	return c
}

// changed is a copy of a memory with something changed.
func changed(c api.Multi, change func(c *api.Multi)) api.Multi {
	c = cloneMulti(c)
	change(&c)
	return c
}

// Addresses and words, told by the chapter's words.

func recordAt(c api.Multi, thread int) int { return len(c.Cells) + thread }

func statusAt(c api.Multi, d int) int { return len(c.Cells) + c.Threads + 2*d }

func numberAt(c api.Multi, d int) int { return statusAt(c, d) + 1 }

func sizeOf(c api.Multi) int { return len(c.Cells) + c.Threads + 2*c.Threads*c.Uses }

func held(d int) int { return 4*d + 2 }

func marked(thread, put int) int { return 4*(thread+16*put) + 1 }

func recorded(put, d, entry int) int { return put*4096 + d*4 + entry }

// row is a machine.
type row struct {
	c api.Multi
	m *machine.Machine
}

func rowOf(t *testing.T, c api.Multi) *row {
	t.Helper()
	m, e := mcas.New(c)
	if e != api.OK || m == nil {
		t.Fatalf("New(%+v) = %v, %d", c, m, e)
	}
	return &row{c: c, m: m}
}

// make makes moves, each of which does something.
func (w *row) make(t *testing.T, moves ...api.Move) {
	t.Helper()
	for _, mv := range moves {
		if !w.m.Move(mv) {
			t.Fatalf("move %d, %+v, does nothing", w.now(), mv)
		}
	}
}

func (w *row) steps(t *testing.T, thread, count int) {
	t.Helper()
	w.make(t, slices.Repeat([]api.Move{step(thread)}, count)...)
}

// longest is more than any call takes that goes on alone.
const longest = 3000

// finish lets a thread make steps till its call has ended.
func (w *row) finish(t *testing.T, thread int) {
	t.Helper()
	for count := 0; w.m.Busy(thread); count++ {
		if count > longest {
			t.Fatalf("thread %d doesn't come to an end", thread)
		}
		w.steps(t, thread, 1)
	}
}

// calls makes calls one after the other, each to its end, and asks that each answers so.
func (w *row) calls(t *testing.T, want api.Answer, moves ...api.Move) {
	t.Helper()
	for _, mv := range moves {
		w.make(t, mv)
		w.finish(t, mv.Thread)
		if c := w.last(mv.Thread); c.Answer != want {
			t.Fatalf("%+v, not %+v", c, want)
		}
	}
}

// refuses asks that none of these begins anything.
func (w *row) refuses(t *testing.T, moves ...api.Move) {
	t.Helper()
	for _, mv := range moves {
		ahead := w.m.Run()
		if w.m.Move(mv) {
			t.Fatalf("move %d, %+v, is not refused", w.now(), mv)
		}
		wantRun(t, w.m.Run(), ahead)
	}
}

func (w *row) last(thread int) api.Call {
	c, _ := w.m.Call(thread)
	return c
}

// now is the number of the last move.
func (w *row) now() int { return w.m.Moves() - 1 }

// tells makes a call that a thread makes alone, with these accesses, one a step; point is the number of the
// access that is its point, from 0 on.
func (w *row) tells(t *testing.T, mv api.Move, answer api.Answer, point int, accesses ...api.Access) {
	t.Helper()
	w.make(t, mv)
	begin := w.now()
	w.goes(t, accesses...)
	want := api.Call{
		Thread: mv.Thread, Op: mv.Op, Arg: mv.Arg, Data: mv.Data,
		Begin: begin, End: begin + len(accesses), Point: begin + 1 + point, Answer: answer,
	}
	if got := w.last(mv.Thread); got != want || w.m.Busy(mv.Thread) {
		t.Fatalf("the call is %+v, not %+v", got, want)
	}
}

// goes lets threads make a step for each of these accesses, and asks that they make just these.
func (w *row) goes(t *testing.T, accesses ...api.Access) {
	t.Helper()
	for i, want := range accesses {
		ahead := len(w.m.Run().Trace)
		w.steps(t, want.Thread, 1)
		want.Move = w.now()
		if got := w.m.Run().Trace[ahead:]; len(got) != 1 || got[0] != want {
			t.Fatalf("access %d: %+v, not %+v", i, got, want)
		}
	}
}

// ended asks that a thread's call has ended in the last move, with that answer and that point.
func (w *row) ended(t *testing.T, thread int, answer api.Answer, point int) {
	t.Helper()
	c := w.last(thread)
	if w.m.Busy(thread) || c.End != w.now() || c.Answer != answer || c.Point != point {
		t.Fatalf("behind move %d the call is %+v, not ended with %+v and the point %d", w.now(), c, answer, point)
	}
}

// pending asks that the threads' calls have not ended, tell no answer, and have no point.
func (w *row) pending(t *testing.T, threads ...int) {
	t.Helper()
	for _, thread := range threads {
		c := w.last(thread)
		if !w.m.Busy(thread) || c.End != none || c.Answer != (api.Answer{}) || c.Point != none {
			t.Fatalf("behind move %d the call is %+v, not on its way", w.now(), c)
		}
	}
}

func (w *row) wantCells(t *testing.T, want ...int) {
	t.Helper()
	if got, e := mcas.Cells(w.c, w.m.Run().Words); !slices.Equal(got, want) || e != api.OK {
		t.Fatalf("behind move %d the cells are %v, %d, not %v", w.now(), got, e, want)
	}
}

func (w *row) wantWords(t *testing.T, want ...int) {
	t.Helper()
	if got := w.m.Run().Words; !slices.Equal(got, numbers(want...)) {
		t.Fatalf("behind move %d the words are %d, not %d", w.now(), got, want)
	}
}

func (w *row) wantHolds(t *testing.T) {
	t.Helper()
	if so, e := mcas.Holds(w.c, w.m.Run()); !so || e != api.OK {
		t.Fatalf("behind move %d: Holds = %v, %d: %+v", w.now(), so, e, w.m.Run())
	}
}

// none is no point, no end.
const none = -1

// Moves.

func step(thread int) api.Move { return api.Move{Thread: thread} }

func multi(thread, swap int) api.Move { return api.Move{Thread: thread, Op: api.OpMulti, Arg: swap} }

func read(thread, cell int) api.Move {
	return api.Move{Thread: thread, Op: api.OpMultiRead, Arg: cell}
}

// Answers.

func value(v int) api.Answer { return api.Answer{Kind: api.AnswerValue, Value: v} }

var (
	yes = api.Answer{Kind: api.AnswerYes}
	no  = api.Answer{Kind: api.AnswerNo}
)

// Accesses. A word is told as a number.

func load(thread, addr, saw int) api.Access {
	return api.Access{Thread: thread, Kind: api.AccessLoad, Addr: addr, Saw: uint64(saw)}
}

func store(thread, addr, w int) api.Access {
	return api.Access{Thread: thread, Kind: api.AccessStore, Addr: addr, New: uint64(w)}
}

// swap is one that succeeds, fails one that sees another word.
func swap(thread, addr, old, w int) api.Access { return fails(thread, addr, old, w, old) }

func fails(thread, addr, old, w, saw int) api.Access {
	return api.Access{
		Thread: thread, Kind: api.AccessSwap, Addr: addr, Old: uint64(old), New: uint64(w), Saw: uint64(saw),
	}
}

// numbers are words, told as numbers.
func numbers(list ...int) []uint64 {
	words := make([]uint64, len(list))
	for i, n := range list {
		words[i] = uint64(n)
	}
	return words
}

// Runs.

func playOf(t *testing.T, c api.Multi, moves ...api.Move) api.Run {
	t.Helper()
	r, e := mcas.Play(c, moves)
	if e != api.OK {
		t.Fatalf("Play = %d", e)
	}
	return r
}

// sameRun tells whether two runs are the same; nil and empty lists are.
func sameRun(a, b api.Run) bool {
	return slices.Equal(a.Calls, b.Calls) && slices.Equal(a.Trace, b.Trace) &&
		slices.Equal(a.Shifts, b.Shifts) && slices.Equal(a.Words, b.Words)
}

func wantRun(t *testing.T, got, want api.Run) {
	t.Helper()
	if !sameRun(got, want) {
		t.Fatalf("run\n%+v, not\n%+v", got, want)
	}
}

func cloneRun(r api.Run) api.Run {
	return api.Run{
		Calls: slices.Clone(r.Calls), Trace: slices.Clone(r.Trace), Shifts: slices.Clone(r.Shifts), Words: slices.Clone(r.Words),
	}
}

func wantMet(t *testing.T, met map[string]int, least int, what ...string) {
	t.Helper()
	for _, x := range what {
		if met[x] < least {
			t.Errorf("%s: met %d times", x, met[x])
		}
	}
}
