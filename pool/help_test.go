package pool_test

import (
	"slices"
	"testing"

	"reclaim/api"
	"reclaim/machine"
	"reclaim/pool"
	"reclaim/word"
)

// configOf is a configuration in which what the objects look at is of interest.
func configOf(threads, records, retire, cache, slots, buckets int) api.Config {
	return api.Config{Threads: threads, Records: records, Hazards: 3, Retire: retire, Cache: cache, Slots: slots, Buckets: buckets}
}

// The chapter's examples are of this configuration.
func example() api.Config { return configOf(1, 1, 1, 0, 3, 1) }

// Moves.

func move(thread int, op api.Op, arg int) api.Move {
	return api.Move{Thread: thread, Op: op, Arg: arg}
}

func step(thread int) api.Move { return move(thread, api.OpStep, 0) }

func register(thread int) api.Move { return move(thread, api.OpRegister, 0) }

func add(thread, key, data int) api.Move {
	return api.Move{Thread: thread, Op: api.OpAdd, Arg: key, Data: data}
}

// with is a move with steps of its thread behind it.
func with(mv api.Move, steps int) []api.Move {
	return append([]api.Move{mv}, slices.Repeat([]api.Move{step(mv.Thread)}, steps)...)
}

// objects are the ops of each object, by the objects' numbers in chapter 11; 0 are those of no object.
var objects = [][]api.Op{
	{api.OpTake, api.OpGive, api.OpFlush, api.OpRegister, api.OpUnregister, api.OpClear, api.OpScan},
	{api.OpPost, api.OpRead},
	{api.OpPush, api.OpPop},
	{api.OpEnqueue, api.OpDequeue},
	{api.OpInsert, api.OpDelete, api.OpContains},
	{api.OpAdd, api.OpRemove, api.OpGet},
}

// objectOf is the number of the object that a call is of; 0: none.
func objectOf(op api.Op) int {
	return max(0, slices.IndexFunc(objects, func(ops []api.Op) bool { return slices.Contains(ops, op) }))
}

// Answers.

func value(v int) api.Answer { return api.Answer{Kind: api.AnswerValue, Value: v} }

var (
	full  = api.Answer{Kind: api.AnswerFull}
	done  = api.Answer{Kind: api.AnswerDone}
	empty = api.Answer{Kind: api.AnswerEmpty}
	yes   = api.Answer{Kind: api.AnswerYes}
	no    = api.Answer{Kind: api.AnswerNo}
)

// Words as chapter 1 packs them, told by hand.

func head(tag, slot int) uint64 { return uint64(tag)<<32 + uint64(slot+1) }

func link(slot int) uint64 { return uint64(slot + 1) }

// markBit is a link's mark.
const markBit uint64 = 1 << 32

func marked(slot int) uint64 { return link(slot) | markBit }

func addrOf(c api.Config, r api.Region, i int) int {
	addr, _ := word.Addr(c, api.Place{Region: r, I: i})
	return addr
}

// machineOf is a machine that is to be made.
func machineOf(t *testing.T, c api.Config) *machine.Machine {
	t.Helper()
	m, e := pool.New(c)
	if e != api.OK || m == nil {
		t.Fatalf("New(%+v) = %v, %d", c, m, e)
	}
	return m
}

// finish lets a thread come to its call's end alone.
func finish(t *testing.T, m *machine.Machine, thread int) {
	t.Helper()
	for count := 0; m.Busy(thread); count++ {
		if count > 20000 {
			t.Fatalf("thread %d doesn't come to an end", thread)
		}
		m.Move(step(thread))
	}
}

// call begins a call, lets the thread come to its end alone, and tells what it came to.
func call(t *testing.T, m *machine.Machine, mv api.Move) api.Call {
	t.Helper()
	if !m.Move(mv) {
		t.Fatalf("%+v does nothing", mv)
	}
	finish(t, m, mv.Thread)
	c, _ := m.Call(mv.Thread)
	return c
}

// wantCall asks what a call that comes to its end alone answers.
func wantCall(t *testing.T, m *machine.Machine, mv api.Move, want api.Answer) {
	t.Helper()
	if got := call(t, m, mv); got.Answer != want {
		t.Errorf("%+v, not %+v", got, want)
	}
}

// playOf is the run of a script.
func playOf(t *testing.T, c api.Config, moves ...api.Move) api.Run {
	t.Helper()
	r, e := pool.Play(c, moves)
	if e != api.OK {
		t.Fatalf("Play = %d", e)
	}
	return r
}

// sameRun tells whether two runs are the same; nil and empty lists are.
func sameRun(a, b api.Run) bool {
	return slices.Equal(a.Calls, b.Calls) && slices.Equal(a.Trace, b.Trace) &&
		slices.Equal(a.Shifts, b.Shifts) && slices.Equal(a.Words, b.Words)
}

func wantRun(t *testing.T, got, want api.Run) {
	t.Helper()
	if !sameRun(got, want) {
		t.Fatalf("run\n%+v, not\n%+v", got, want)
	}
}

// sameContents tells whether two contents are the same; nil and empty lists are.
func sameContents(a, b api.Contents) bool {
	return slices.Equal(a.Cell, b.Cell) && slices.Equal(a.Stack, b.Stack) && slices.Equal(a.Queue, b.Queue) &&
		slices.Equal(a.Set, b.Set) && slices.Equal(a.Table, b.Table)
}

// paper is a memory's words that a test writes by hand.
type paper struct {
	c     api.Config
	words []uint64
}

// paperOf has the words of New's memory.
func paperOf(c api.Config) *paper {
	words, _ := word.First(c, 1)
	return &paper{c, words}
}

// put writes the word of a region and a number.
func (p *paper) put(r api.Region, i int, w uint64) *paper {
	p.words[addrOf(p.c, r, i)] = w
	return p
}

// slot writes a slot's words, but for its spare one.
func (p *paper) slot(slot, value, data int, next uint64) *paper {
	return p.put(api.RegionValue, slot, uint64(value)).put(api.RegionData, slot, uint64(data)).put(api.RegionLink, slot, next)
}

// wantLook asks what the objects hold.
func (p *paper) wantLook(t *testing.T, what string, want api.Contents) {
	t.Helper()
	if got, e := pool.Look(p.c, p.words); e != api.OK || !sameContents(got, want) {
		t.Errorf("%s: Look = %+v, %d, not %+v", what, got, e, want)
	}
}

// wantNoLook asks that Look refuses the words, with nothing beside the error.
func (p *paper) wantNoLook(t *testing.T, what string, want api.Errno) {
	t.Helper()
	if got, e := pool.Look(p.c, p.words); e != want || !sameContents(got, api.Contents{}) {
		t.Errorf("%s: Look = %+v, %d, not %d", what, got, e, want)
	}
}

func (p *paper) wantFree(t *testing.T, what string, want ...int) {
	t.Helper()
	if got, e := pool.Free(p.c, p.words); e != api.OK || !slices.Equal(got, want) {
		t.Errorf("%s: Free = %v, %d, not %v", what, got, e, want)
	}
}

func (p *paper) wantNoFree(t *testing.T, what string, want api.Errno) {
	t.Helper()
	if got, e := pool.Free(p.c, p.words); e != want || len(got) != 0 {
		t.Errorf("%s: Free = %v, %d, not %d", what, got, e, want)
	}
}
