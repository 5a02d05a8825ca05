package tso_test

import (
	"slices"
	"testing"

	"reclaim/api"
	"reclaim/tso"
)

// wantRange: a state that is none of the program's, by whatever turn.
func wantRange(t *testing.T, l api.Litmus, o api.Order, s api.LitmusState) {
	t.Helper()
	for _, turn := range []api.Turn{do(0), do(9), out(0), outOf(1, 1)} {
		got, happened, e := tso.Next(l, o, s, turn)
		if e != api.ErrRange || happened || !isNoState(got) {
			t.Errorf("order %d, %+v in %+v: %+v, %v, %v", o, turn, s, got, happened, e)
		}
	}
}

// wantIs: a state that is one, in which a turn of nobody does nothing.
func wantIs(t *testing.T, l api.Litmus, o api.Order, s api.LitmusState) {
	t.Helper()
	wantNext(t, l, o, s, do(-1), s, false)
	wantNext(t, l, o, s, out(4), s, false)
}

// three has threads of 0, 3 and 10 instructions over four words.
func three() api.Litmus {
	return litmus([]int{1, 2, 3, 4}, nil, times(3, set(0, 1)), times(10, add(1, 1)))
}

// P19.4: as many words, and as many threads' registers, places and buffers, as the program has.
func TestStateRows(t *testing.T) {
	l := three()
	for _, o := range orders() {
		good := begin(t, l)
		wantIs(t, l, o, good)
		for n := range 8 {
			s := good
			s.Words = make([]int, n)
			if n == 4 {
				wantIs(t, l, o, s)
			} else {
				wantRange(t, l, o, s)
			}
			for _, s := range []api.LitmusState{
				{Words: good.Words, Regs: make([]regs, n), Places: good.Places, Buffers: good.Buffers},
				{Words: good.Words, Regs: good.Regs, Places: make([]int, n), Buffers: good.Buffers},
				{Words: good.Words, Regs: good.Regs, Places: good.Places, Buffers: make([][]api.Pending, n)},
				{Words: good.Words, Regs: make([]regs, n), Places: make([]int, n), Buffers: make([][]api.Pending, n)},
			} {
				if n == 3 {
					wantIs(t, l, o, s)
				} else {
					wantRange(t, l, o, s)
				}
			}
		}
		wantRange(t, l, o, api.LitmusState{})
	}
}

// P19.4: each place is 0 to the number of the thread's instructions.
func TestStatePlaces(t *testing.T) {
	l := three()
	for _, o := range orders() {
		for i, c := range l.Threads {
			for place := -2; place <= 13; place++ {
				s := begin(t, l)
				s.Places[i] = place
				if place >= 0 && place <= len(c) {
					wantIs(t, l, o, s)
				} else {
					wantRange(t, l, o, s)
				}
			}
			for _, place := range []int{least, greatest, 1 << 32} {
				s := begin(t, l)
				s.Places[i] = place
				wantRange(t, l, o, s)
			}
		}
	}
}

// P19.4: a buffer has at most 10 stores, of words that there are, and none under OrderSC.
func TestStateBuffers(t *testing.T) {
	l := three()
	for i := range l.Threads {
		for n := range 14 {
			s := begin(t, l)
			s.Buffers[i] = slices.Repeat(waiting(3, 5), n)
			for _, o := range orders() {
				if n == 0 || n <= 10 && o != api.OrderSC {
					wantIs(t, l, o, s)
				} else {
					wantRange(t, l, o, s)
				}
			}
		}
		for _, addr := range []int{-1, 0, 3, 4, 6, least, greatest, 1 << 32} {
			for at := range 10 {
				s := begin(t, l)
				s.Buffers[i] = slices.Repeat(waiting(1, least), 10)
				s.Buffers[i][at].Addr = addr
				for _, o := range weak() {
					if addr == 0 || addr == 3 {
						wantIs(t, l, o, s)
					} else {
						wantRange(t, l, o, s)
					}
				}
			}
		}
	}
}

// P19.4: words, registers and values of stores may be any number.
func TestStateNumbers(t *testing.T) {
	l := three()
	for _, n := range []int{0, -1, least, greatest} {
		s := begin(t, l)
		s.Words, s.Regs[1], s.Regs[2] = []int{n, n, n, n}, regs{n, n, n, n}, regs{3: n}
		wantIs(t, l, api.OrderSC, s)
		s.Buffers[0] = waiting(0, n, 3, n)
		for _, o := range weak() {
			wantIs(t, l, o, s)
		}
	}
}

// P19.4: a state that no run comes to is gone on from too.
func TestStateOfNoRun(t *testing.T) {
	l := litmus([]int{0, 0}, nil, []api.Instr{load(1, 1), swap(0, 0, 3, 4)})
	s := begin(t, l)
	s.Words, s.Regs[0], s.Places[1] = []int{3, 9}, regs{1, 2, 3, 4}, 1
	s.Buffers[0] = waiting(1, 8, 0, 7)
	want := cloneState(s)
	want.Words[0], want.Regs[1][0], want.Places[1] = 4, 1, 2
	for _, o := range weak() {
		wantNext(t, l, o, s, do(1), want, true)
	}
	want = cloneState(s)
	want.Words[1], want.Buffers[0] = 8, waiting(0, 7)
	wantNext(t, l, api.OrderTSO, s, out(0), want, true)
	want = cloneState(s)
	want.Words[0], want.Buffers[0] = 7, waiting(1, 8)
	wantNext(t, l, api.OrderPSO, s, outOf(0, 0), want, true)
}

// P19.4: the state behind a turn is one again, but for a buffer that was as great as may be.
func TestStateBehind(t *testing.T) {
	l := litmus([]int{0}, times(10, store(0, 1)))
	s := begin(t, l)
	s.Buffers[0] = slices.Repeat(waiting(0, 1), 9)
	ten, _, _ := tso.Next(l, api.OrderTSO, s, do(0))
	eleven, happened, e := tso.Next(l, api.OrderTSO, ten, do(0))
	if e != api.OK || !happened || len(eleven.Buffers[0]) != 11 {
		t.Errorf("%+v, %v, %v", eleven, happened, e)
	}
	wantRange(t, l, api.OrderTSO, eleven)
}
