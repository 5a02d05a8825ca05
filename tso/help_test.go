package tso_test

import (
	"fmt"
	"slices"
	"testing"

	"reclaim/api"
	"reclaim/tso"
)

const (
	least    = -1 << 63
	greatest = 1<<63 - 1
)

// orders are the three there are.
func orders() []api.Order { return []api.Order{api.OrderSC, api.OrderTSO, api.OrderPSO} }

// weak are the two under which stores wait.
func weak() []api.Order { return []api.Order{api.OrderTSO, api.OrderPSO} }

// noOrders are numbers of none.
func noOrders() []api.Order { return []api.Order{0, 4, -1, 5, 1 << 32, 1<<32 + 1, least, greatest} }

type (
	codes = [][]api.Instr
	regs  = [api.LitmusRegs]int
	turns = []api.Turn
	waits = []api.Pending
)

// Instructions.

func load(reg, addr int) api.Instr { return api.Instr{Kind: api.InstrLoad, Reg: reg, Addr: addr} }

func store(addr, value int) api.Instr {
	return api.Instr{Kind: api.InstrStore, Addr: addr, Value: value, From: -1}
}

func storeReg(addr, from int) api.Instr {
	return api.Instr{Kind: api.InstrStore, Addr: addr, From: from}
}

func swap(reg, addr, old, value int) api.Instr {
	return api.Instr{Kind: api.InstrSwap, Reg: reg, Addr: addr, Old: old, Value: value}
}

func fence() api.Instr { return api.Instr{Kind: api.InstrFence} }

func set(reg, value int) api.Instr { return api.Instr{Kind: api.InstrSet, Reg: reg, Value: value} }

func add(reg, value int) api.Instr { return api.Instr{Kind: api.InstrAdd, Reg: reg, Value: value} }

func skip(count, reg, value int) api.Instr {
	return api.Instr{Kind: api.InstrSkip, Count: count, Reg: reg, Value: value}
}

// times is one instruction so often.
func times(n int, in api.Instr) []api.Instr { return slices.Repeat([]api.Instr{in}, n) }

func litmus(words []int, threads ...[]api.Instr) api.Litmus {
	return api.Litmus{Words: words, Threads: threads}
}

// Turns.

func do(thread int) api.Turn { return api.Turn{Thread: thread} }

func out(thread int) api.Turn { return api.Turn{Thread: thread, Out: true} }

func outOf(thread, addr int) api.Turn { return api.Turn{Thread: thread, Out: true, Addr: addr} }

// waiting is a buffer, of words and values by turns.
func waiting(numbers ...int) waits {
	got := waits{}
	for pair := range slices.Chunk(numbers, 2) {
		got = append(got, api.Pending{Addr: pair[0], Value: pair[1]})
	}
	return got
}

// Copies.

func cloneLists[T any](lists [][]T) [][]T {
	got := make([][]T, len(lists))
	for i, l := range lists {
		got[i] = slices.Clone(l)
	}
	return got
}

func cloneLitmus(l api.Litmus) api.Litmus {
	return api.Litmus{Words: slices.Clone(l.Words), Threads: cloneLists(l.Threads)}
}

func cloneState(s api.LitmusState) api.LitmusState {
	return api.LitmusState{Words: slices.Clone(s.Words), Regs: slices.Clone(s.Regs), Places: slices.Clone(s.Places), Buffers: cloneLists(s.Buffers)}
}

func cloneFinal(f api.Final) api.Final {
	return api.Final{Words: slices.Clone(f.Words), Regs: slices.Clone(f.Regs)}
}

// What is the same; nil and empty lists are.

func sameLists[T comparable](a, b [][]T) bool { return slices.EqualFunc(a, b, slices.Equal) }

func sameLitmus(a, b api.Litmus) bool {
	return slices.Equal(a.Words, b.Words) && sameLists(a.Threads, b.Threads)
}

func sameState(a, b api.LitmusState) bool {
	return slices.Equal(a.Words, b.Words) && slices.Equal(a.Regs, b.Regs) && slices.Equal(a.Places, b.Places) && sameLists(a.Buffers, b.Buffers)
}

func sameFinal(a, b api.Final) bool {
	return slices.Equal(a.Words, b.Words) && slices.Equal(a.Regs, b.Regs)
}

func sameFinals(a, b []api.Final) bool { return slices.EqualFunc(a, b, sameFinal) }

func isNoState(s api.LitmusState) bool {
	return s.Words == nil && s.Regs == nil && s.Places == nil && s.Buffers == nil
}

func isNoLitmus(l api.Litmus) bool { return l.Words == nil && l.Threads == nil }

// Asking.

func begin(t *testing.T, l api.Litmus) api.LitmusState {
	t.Helper()
	s, e := tso.Begin(l)
	if e != api.OK {
		t.Fatalf("Begin(%+v): %v", l, e)
	}
	return s
}

func finals(t *testing.T, l api.Litmus, o api.Order) []api.Final {
	t.Helper()
	f, e := tso.Finals(l, o)
	if e != api.OK {
		t.Fatalf("Finals(%+v, %d): %v", l, o, e)
	}
	return f
}

func reach(t *testing.T, l api.Litmus, o api.Order, f api.Final) []api.Turn {
	t.Helper()
	w, e := tso.Reach(l, o, f)
	if e != api.OK {
		t.Fatalf("Reach(%+v, %d, %+v): %v", l, o, f, e)
	}
	return w
}

func classic(t *testing.T, name string) api.Litmus {
	t.Helper()
	l, ok := tso.Classic(name)
	if !ok {
		t.Fatalf("no %q", name)
	}
	return l
}

func wantNext(t *testing.T, l api.Litmus, o api.Order, s api.LitmusState, turn api.Turn, want api.LitmusState, happens bool) {
	t.Helper()
	got, happened, e := tso.Next(l, o, s, turn)
	if e != api.OK || happened != happens || !sameState(got, want) {
		t.Errorf("order %d, turn %+v of %s in %+v:\ngot  %+v, %v, %v\nwant %+v, %v", o, turn, code(l), s, got, happened, e, want, happens)
	}
}

func wantFinals(t *testing.T, l api.Litmus, o api.Order, want ...api.Final) {
	t.Helper()
	if got := finals(t, l, o); !sameFinals(got, want) {
		t.Errorf("order %d, %s:\ngot  %+v\nwant %+v", o, code(l), got, want)
	}
}

// code is a program, so that it can be read.
func code(l api.Litmus) string { return fmt.Sprintf("%+v", l) }

// someFinal tells whether one of them is so.
func someFinal(all []api.Final, so func(api.Final) bool) bool { return slices.ContainsFunc(all, so) }
