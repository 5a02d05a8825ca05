package tso_test

import (
	"slices"
	"testing"

	"reclaim/api"
	"reclaim/tso"
)

func wantWay(t *testing.T, l api.Litmus, o api.Order, f api.Final, want ...api.Turn) {
	t.Helper()
	if got := reach(t, l, o, f); !slices.Equal(got, want) {
		t.Errorf("order %d, %s to %+v:\ngot  %+v\nwant %+v", o, code(l), f, got, want)
	}
}

func wantNoWay(t *testing.T, l api.Litmus, o api.Order, f api.Final) {
	t.Helper()
	if got, e := tso.Reach(l, o, f); e != api.ErrFinal || got != nil {
		t.Errorf("order %d, %s to %+v: %+v, %v", o, code(l), f, got, e)
	}
}

// P19.7: the lesser thread first, instructions ahead of what goes out, the lesser word first.
func TestReachLeast(t *testing.T) {
	l := litmus([]int{0, 0}, []api.Instr{store(1, 1), store(0, 1)}, []api.Instr{set(0, 1)})
	f := api.Final{Words: []int{1, 1}, Regs: []regs{{}, {1}}}
	wantWay(t, l, api.OrderSC, f, do(0), do(0), do(1))
	wantWay(t, l, api.OrderTSO, f, do(0), do(0), out(0), out(0), do(1))
	wantWay(t, l, api.OrderPSO, f, do(0), do(0), outOf(0, 0), outOf(0, 1), do(1))
}

// P19.7: an instruction goes ahead even where the other way round would come to the same end.
func TestReachOutLate(t *testing.T) {
	l := litmus([]int{0}, []api.Instr{store(0, 1), set(0, 1), set(0, 2)})
	f := api.Final{Words: []int{1}, Regs: []regs{{2}}}
	for _, o := range weak() {
		wantWay(t, l, o, f, do(0), do(0), do(0), out(0))
	}
	l.Threads[0][1] = fence()
	for _, o := range weak() {
		wantWay(t, l, o, f, do(0), out(0), do(0), do(0))
	}
}

// P19.7: of several ways the shortest, though it begins with a greater turn.
func TestReachShortest(t *testing.T) {
	// Thread 0 does three things more if it comes first.
	l := litmus([]int{0}, []api.Instr{load(0, 0), skip(4, 0, 1), set(0, 1), set(1, 1), set(1, 0), add(2, 0)}, []api.Instr{store(0, 1)})
	f := api.Final{Words: []int{1}, Regs: []regs{{1}, {}}}
	wantWay(t, l, api.OrderSC, f, do(1), do(0), do(0))
	wantWay(t, l, api.OrderTSO, f, do(1), out(1), do(0), do(0))
	wantWay(t, l, api.OrderPSO, f, do(1), out(1), do(0), do(0))
}

// P19.7: the ways of the classics' ends that the weak orders alone have.
func TestReachClassics(t *testing.T) {
	mp := classic(t, "MP")
	f := api.Final{Words: []int{1, 1}, Regs: []regs{{}, {1, 0}}}
	wantNoWay(t, mp, api.OrderSC, f)
	wantNoWay(t, mp, api.OrderTSO, f)
	wantWay(t, mp, api.OrderPSO, f, do(0), do(0), outOf(0, 1), do(1), do(1), outOf(0, 0))
	w := classic(t, "2+2W")
	f = api.Final{Words: []int{1, 1}, Regs: []regs{{}, {}}}
	wantNoWay(t, w, api.OrderTSO, f)
	wantWay(t, w, api.OrderPSO, f, do(0), do(0), outOf(0, 1), do(1), do(1), outOf(1, 0), outOf(0, 0), outOf(1, 1))
}

// P19.7: no turns lead to the end of a program without instructions.
func TestReachNothing(t *testing.T) {
	l := litmus([]int{4, 5}, nil, nil)
	for _, o := range orders() {
		wantWay(t, l, o, api.Final{Words: []int{4, 5}, Regs: make([]regs, 2)})
		wantNoWay(t, l, o, api.Final{Words: []int{4, 6}, Regs: make([]regs, 2)})
	}
}

// P19.7: what is none of Finals, by its numbers and by its rows.
func TestReachNone(t *testing.T) {
	l := classic(t, "SB")
	for _, o := range orders() {
		for _, f := range []api.Final{
			{}, one(2, 0), one(0, -1), {Words: []int{0, 1}, Regs: []regs{{}, {1}}}, {Words: []int{0, 0}, Regs: []regs{{}, {}}},
			{Words: []int{1}, Regs: []regs{{}, {1}}}, {Words: []int{1, 1, 0}, Regs: []regs{{}, {1}}}, {Words: []int{1, 1, 0, 0, 0, 0, 0}, Regs: []regs{{}, {1}}},
			{Words: []int{1, 1}, Regs: []regs{{1}}}, {Words: []int{1, 1}, Regs: []regs{{}, {1}, {}}}, {Words: []int{1, 1}, Regs: []regs{{}, {1}, {}, {}, {}}},
			{Words: []int{1, 1}}, {Regs: []regs{{}, {1}}}, {Words: []int{1, 1}, Regs: []regs{{}, {0: 1, 3: 1}}}, {Words: []int{1, 1}, Regs: []regs{{1: 1}, {1}}},
			{Words: make([]int, 99), Regs: make([]regs, 99)},
		} {
			wantNoWay(t, l, o, f)
		}
		wantWay(t, l, o, one(1, 1), reach(t, l, o, one(1, 1))...)
	}
	wantNoWay(t, l, api.OrderSC, one(0, 0))
	// A state that is come to, but whose threads have not all ended, is no end.
	wantNoWay(t, litmus([]int{0}, []api.Instr{set(0, 1), set(0, 2)}), api.OrderSC, api.Final{Words: []int{0}, Regs: []regs{{1}}})
	// Nor is one in which a store still waits.
	for _, o := range weak() {
		wantNoWay(t, litmus([]int{0}, []api.Instr{store(0, 1)}), o, api.Final{Words: []int{0}, Regs: []regs{{}}})
	}
}
