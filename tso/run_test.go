package tso_test

import (
	"slices"
	"testing"

	"reclaim/api"
	"reclaim/tso"
)

func wantRun(t *testing.T, l api.Litmus, o api.Order, list []api.Turn, want api.LitmusState, count int) {
	t.Helper()
	got, n, e := tso.Run(l, o, list)
	if e != api.OK || n != count || !sameState(got, want) {
		t.Errorf("order %d, %d turns of %s:\ngot  %+v, %d, %v\nwant %+v, %d", o, len(list), code(l), got, n, e, want, count)
	}
}

// P19.5: no turns leave the first state.
func TestRunNothing(t *testing.T) {
	for _, name := range tso.Names() {
		l := classic(t, name)
		for _, o := range orders() {
			wantRun(t, l, o, nil, begin(t, l), 0)
			wantRun(t, l, o, turns{}, begin(t, l), 0)
			wantRun(t, l, o, turns{do(7), out(0), do(-1), outOf(1, 1)}, begin(t, l), 0)
		}
	}
}

// P19.5: turns in which nothing happens are not counted.
func TestRunCounts(t *testing.T) {
	l := litmus([]int{0, 0}, []api.Instr{store(1, 5), swap(0, 1, 5, 6)})
	end := api.LitmusState{Words: []int{0, 6}, Regs: []regs{{1}}, Places: []int{2}, Buffers: make([][]api.Pending, 1)}
	wantRun(t, l, api.OrderSC, turns{do(0), out(0), do(1), do(0), do(0)}, end, 2)
	wantRun(t, l, api.OrderTSO, turns{out(0), do(0), do(0), do(0), out(0), out(0), do(0), do(0)}, end, 3)
	wantRun(t, l, api.OrderPSO, turns{do(0), do(0), out(0), do(0), outOf(0, 1), do(0), outOf(0, 1)}, end, 3)
	stuck := api.LitmusState{Words: []int{0, 0}, Regs: []regs{{}}, Places: []int{1}, Buffers: [][]api.Pending{waiting(1, 5)}}
	wantRun(t, l, api.OrderPSO, turns{do(0), do(0), out(0), do(0), outOf(0, 2), do(0)}, stuck, 1)
}

// P19.5: a run is its turns, one by one.
func TestRunIsNexts(t *testing.T) {
	d := newDice(21)
	for range 400 {
		l := d.litmus(4, 3, 6)
		o := orders()[d.below(3)]
		list := d.turns(l, 40)
		s, count := begin(t, l), 0
		for _, turn := range list {
			after, happened, e := tso.Next(l, o, s, turn)
			if e != api.OK {
				t.Fatalf("%s: %v", code(l), e)
			}
			if happened {
				count++
			}
			s = after
		}
		wantRun(t, l, o, list, s, count)
	}
}

// P19.5: 4096 turns, and not one more.
func TestRunLong(t *testing.T) {
	l := litmus([]int{0}, times(10, store(0, 1)))
	end := api.LitmusState{Words: []int{1}, Regs: []regs{{}}, Places: []int{10}, Buffers: make([][]api.Pending, 1)}
	all := append(make(turns, 4086), slices.Repeat(turns{out(0)}, 10)...)
	for _, o := range weak() {
		wantRun(t, l, o, all, end, 20)
	}
	wantRun(t, l, api.OrderSC, all, end, 10)
	for _, n := range []int{4097, 4098, 8192, 1 << 16} {
		for _, o := range orders() {
			s, count, e := tso.Run(l, o, make(turns, n))
			if e != api.ErrLong || count != 0 || !isNoState(s) {
				t.Errorf("%d turns: %+v, %d, %v", n, s, count, e)
			}
		}
	}
}
