package tso_test

import (
	"slices"
	"testing"

	"reclaim/api"
	"reclaim/tso"
)

// one is words 1, 1 with what SB's two registers are.
func one(a, b int) api.Final { return api.Final{Words: []int{1, 1}, Regs: []regs{{a}, {b}}} }

// P19.5, example 1: both stores wait while both loads are made.
func TestExampleRun(t *testing.T) {
	s, n, e := tso.Run(classic(t, "SB"), api.OrderTSO, turns{do(0), do(0), do(1), do(1), out(0), out(1)})
	want := api.LitmusState{Words: []int{1, 1}, Regs: []regs{{}, {}}, Places: []int{2, 2}, Buffers: make([][]api.Pending, 2)}
	if e != api.OK || n != 6 || !sameState(s, want) {
		t.Errorf("%+v, %d, %v", s, n, e)
	}
}

// P19.6, example 2: three ends under OrderSC, four under OrderTSO.
func TestExampleFinals(t *testing.T) {
	l := classic(t, "SB")
	wantFinals(t, l, api.OrderSC, one(0, 1), one(1, 0), one(1, 1))
	wantFinals(t, l, api.OrderTSO, one(0, 0), one(0, 1), one(1, 0), one(1, 1))
}

// P19.7, example 3: six turns to both registers 0.
func TestExampleReach(t *testing.T) {
	want := turns{do(0), do(0), do(1), do(1), out(0), out(1)}
	if got := reach(t, classic(t, "SB"), api.OrderTSO, one(0, 0)); !slices.Equal(got, want) {
		t.Errorf("%+v", got)
	}
}

// P19.8, P19.11, example 4: store, fence, store, fence; the ends are MP's.
func TestExampleFenced(t *testing.T) {
	l := classic(t, "MP")
	got, e := tso.Fenced(l)
	want := litmus([]int{0, 0}, []api.Instr{store(0, 1), fence(), store(1, 1), fence()}, []api.Instr{load(0, 1), load(1, 0)})
	if e != api.OK || !sameLitmus(got, want) {
		t.Fatalf("%+v, %v", got, e)
	}
	for _, o := range orders() {
		wantFinals(t, got, o, finals(t, l, api.OrderSC)...)
	}
}
