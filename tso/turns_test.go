package tso_test

import (
	"fmt"
	"testing"

	"reclaim/api"
	"reclaim/tso"
)

// scene is a program whose thread 1 is about to make an instruction, with another one ahead and one behind, and a state
// of it. Thread 0 has stores of all words that wait, but under OrderSC: no other thread sees them.
func scene(o api.Order, in api.Instr, buffer waits) (api.Litmus, api.LitmusState) {
	l := litmus([]int{0, 0, 0}, []api.Instr{set(0, 1)}, []api.Instr{set(0, 1), in, set(0, 2)})
	s := api.LitmusState{Words: []int{10, 20, 30}, Regs: []regs{{91, 92, 93, 94}, {1, 2, 3, 4}}, Places: []int{0, 1}, Buffers: [][]api.Pending{nil, buffer}}
	if o != api.OrderSC {
		s.Buffers[0] = waits{{Addr: 0, Value: 61}, {Addr: 1, Value: 62}, {Addr: 2, Value: 63}}
	}
	return l, s
}

// buffersOf are the buffers that a thread may have under an order: none, of word 1, of others, of both.
func buffersOf(o api.Order) []waits {
	if o == api.OrderSC {
		return []waits{nil}
	}
	return []waits{nil, waiting(1, 5), waiting(0, 6, 2, 7), waiting(1, 5, 0, 6, 1, 7, 2, 8), waiting(0, 6, 1, 5, 1, 10, 1, 20)}
}

// wantDone holds the instruction against what it does to a state, in which the place has been moved on.
func wantDone(t *testing.T, o api.Order, in api.Instr, buffer waits, does func(*api.LitmusState)) {
	t.Helper()
	l, s := scene(o, in, buffer)
	want := cloneState(s)
	want.Places[1]++
	does(&want)
	wantNext(t, l, o, s, do(1), want, true)
}

// wantStays: nothing happens.
func wantStays(t *testing.T, o api.Order, in api.Instr, buffer waits) {
	t.Helper()
	l, s := scene(o, in, buffer)
	wantNext(t, l, o, s, do(1), s, false)
}

// P19.1: a load sees the newest of the thread's own stores of that word that wait; else the word.
func TestLoad(t *testing.T) {
	sees := []struct {
		buffer waits
		want   [3]int // of each word
	}{
		{nil, [3]int{10, 20, 30}},
		{waiting(1, 5), [3]int{10, 5, 30}},
		{waiting(0, 6, 2, 7), [3]int{6, 20, 7}},
		{waiting(1, 5, 0, 6, 1, 7, 2, 8), [3]int{6, 7, 8}},
		{waiting(1, 7, 1, 5, 1, 0), [3]int{10, 0, 30}},
		{waiting(2, 1, 2, 2, 2, 3, 2, 4, 2, 5, 2, 6, 2, 7, 2, 8, 2, 9, 0, least), [3]int{least, 20, 9}},
		{waiting(0, 10, 0, 9, 0, 8, 0, 7, 0, 6, 0, 5, 0, 4, 0, 3, 0, 2, 0, 1), [3]int{1, 20, 30}},
	}
	for _, o := range orders() {
		for _, x := range sees {
			if o == api.OrderSC && x.buffer != nil {
				continue
			}
			for addr, want := range x.want {
				for reg := range 4 {
					wantDone(t, o, load(reg, addr), x.buffer, func(s *api.LitmusState) { s.Regs[1][reg] = want })
				}
			}
		}
	}
}

// P19.1: a store of a number or of a register is in the word at once under OrderSC, else it goes behind the buffer.
func TestStore(t *testing.T) {
	stores := []struct {
		in   api.Instr
		want int
	}{{store(1, 77), 77}, {store(1, 0), 0}, {store(1, least), least}, {store(1, greatest), greatest}, {store(1, 20), 20},
		{storeReg(1, 0), 1}, {storeReg(1, 1), 2}, {storeReg(1, 2), 3}, {storeReg(1, 3), 4}}
	for _, x := range stores {
		for addr := range 3 {
			in := x.in
			in.Addr = addr
			wantDone(t, api.OrderSC, in, nil, func(s *api.LitmusState) { s.Words[addr] = x.want })
			for _, o := range weak() {
				for _, b := range buffersOf(o) {
					wantDone(t, o, in, b, func(s *api.LitmusState) {
						s.Buffers[1] = append(s.Buffers[1], api.Pending{Addr: addr, Value: x.want})
					})
				}
			}
		}
	}
}

// P19.1: a register's number is stored, whatever stands as Value.
func TestStoreLooksAtOne(t *testing.T) {
	in := api.Instr{Kind: api.InstrStore, Addr: 2, From: 3, Value: 77}
	wantDone(t, api.OrderSC, in, nil, func(s *api.LitmusState) { s.Words[2] = 4 })
	wantDone(t, api.OrderTSO, in, nil, func(s *api.LitmusState) { s.Buffers[1] = waiting(2, 4) })
}

// P19.1: a store goes behind as many as a state may have too.
func TestStoreBehindTheGreatestBuffer(t *testing.T) {
	full := make(waits, api.MaxCode)
	for i := range full {
		full[i] = api.Pending{Addr: i % 3, Value: i}
	}
	for _, o := range weak() {
		wantDone(t, o, store(1, 77), full, func(s *api.LitmusState) { s.Buffers[1] = append(s.Buffers[1], api.Pending{Addr: 1, Value: 77}) })
	}
}

// P19.1: a swap hits if the word is Old, else it misses; while stores wait it is not made.
func TestSwap(t *testing.T) {
	for _, o := range orders() {
		for reg := range 4 {
			wantDone(t, o, swap(reg, 1, 20, 77), nil, func(s *api.LitmusState) { s.Words[1], s.Regs[1][reg] = 77, 1 })
			wantDone(t, o, swap(reg, 1, 20, 20), nil, func(s *api.LitmusState) { s.Regs[1][reg] = 1 })
			wantDone(t, o, swap(reg, 1, 21, 77), nil, func(s *api.LitmusState) { s.Regs[1][reg] = 0 })
			wantDone(t, o, swap(reg, 1, 77, 20), nil, func(s *api.LitmusState) { s.Regs[1][reg] = 0 })
			wantDone(t, o, swap(reg, 2, 30, least), nil, func(s *api.LitmusState) { s.Words[2], s.Regs[1][reg] = least, 1 })
			wantDone(t, o, swap(reg, 0, 62, 20), nil, func(s *api.LitmusState) { s.Regs[1][reg] = 0 })
		}
	}
	for _, o := range weak() {
		for _, b := range buffersOf(o)[1:] {
			for _, in := range []api.Instr{swap(0, 1, 20, 77), swap(0, 1, 5, 77), swap(0, 1, 7, 77), swap(1, 2, 30, 1), swap(2, 0, 1, 1)} {
				wantStays(t, o, in, b)
			}
		}
	}
}

// P19.1: a fence waits till the thread's own buffer is empty, and does nothing more.
func TestFence(t *testing.T) {
	for _, o := range orders() {
		wantDone(t, o, fence(), nil, func(*api.LitmusState) {})
	}
	for _, o := range weak() {
		for _, b := range buffersOf(o)[1:] {
			wantStays(t, o, fence(), b)
		}
	}
}

// P19.1: registers are set, and added to modulo 2^64, whatever waits.
func TestSetAdd(t *testing.T) {
	for _, o := range orders() {
		for _, b := range buffersOf(o) {
			for reg := range 4 {
				for _, v := range []int{0, 1, -1, 77, least, greatest} {
					wantDone(t, o, set(reg, v), b, func(s *api.LitmusState) { s.Regs[1][reg] = v })
					wantDone(t, o, add(reg, v), b, func(s *api.LitmusState) { s.Regs[1][reg] = int(uint64(reg+1) + uint64(v)) })
				}
			}
		}
	}
}

// P19.1: Add at the int's bounds.
func TestAddWraps(t *testing.T) {
	for _, x := range []struct{ a, b, want int }{
		{greatest, 1, least}, {least, -1, greatest}, {greatest, greatest, -2}, {least, least, 0}, {least, greatest, -1}, {-1, least, greatest}, {1, greatest, least},
	} {
		l := litmus([]int{0}, []api.Instr{set(2, x.a), add(2, x.b), storeReg(0, 2)})
		for _, o := range orders() {
			wantFinals(t, l, o, api.Final{Words: []int{x.want}, Regs: []regs{{0, 0, x.want}}})
		}
	}
}

// P19.1: a skip that is taken leaves out Count instructions, but goes no further than the end; one that is not taken is
// one place further.
func TestSkip(t *testing.T) {
	for _, o := range orders() {
		for _, b := range buffersOf(o) {
			for reg := range 4 {
				for count := range api.MaxCode + 1 {
					end := min(2+count, 3)
					wantDone(t, o, skip(count, reg, reg+1), b, func(s *api.LitmusState) { s.Places[1] = end })
					wantDone(t, o, skip(count, reg, reg), b, func(*api.LitmusState) {})
				}
			}
		}
	}
}

// P19.1: of a long thread, a skip of each count at each place.
func TestSkipPlaces(t *testing.T) {
	for n := 1; n <= api.MaxCode; n++ {
		for place := range n {
			for count := range api.MaxCode + 1 {
				all := times(n, set(0, 5))
				all[place] = skip(count, 3, 0)
				l := litmus([]int{0}, all)
				s := begin(t, l)
				s.Places[0] = place
				want := cloneState(s)
				want.Places[0] = min(place+1+count, n)
				wantNext(t, l, api.OrderPSO, s, do(0), want, true)
			}
		}
	}
}

// P19.1: a turn of a thread that there isn't, or that has ended, does nothing.
func TestNobodysTurn(t *testing.T) {
	for _, o := range orders() {
		for _, b := range buffersOf(o) {
			l, s := scene(o, store(0, 1), b)
			for _, thread := range []int{-1, 2, 3, 4, 16, 1 << 32, 1<<32 + 1, least, greatest} {
				wantNext(t, l, o, s, do(thread), s, false)
			}
			s.Places[1] = 3
			wantNext(t, l, o, s, do(1), s, false)
			wantNext(t, l, o, s, api.Turn{Thread: 1, Addr: 1}, s, false)
		}
	}
	none := litmus([]int{4}, nil, []api.Instr{})
	for _, o := range orders() {
		wantNext(t, none, o, begin(t, none), do(0), begin(t, none), false)
		wantNext(t, none, o, begin(t, none), do(1), begin(t, none), false)
	}
}

// P19.1: a turn of an instruction doesn't look at Addr.
func TestTurnWithoutAddr(t *testing.T) {
	for _, o := range orders() {
		for _, addr := range []int{1, 2, 3, -1, least, greatest} {
			l, s := scene(o, load(0, 1), nil)
			want := cloneState(s)
			want.Places[1], want.Regs[1][0] = 2, 20
			wantNext(t, l, o, s, api.Turn{Thread: 1, Addr: addr}, want, true)
		}
	}
}

// unlike are instructions that are the same but for fields that their kinds don't look at.
func unlike(in api.Instr) []api.Instr {
	got := []api.Instr{}
	for _, n := range []int{-2, 11, 77, least, greatest} {
		x := in
		switch in.Kind {
		case api.InstrLoad:
			x.Value, x.From, x.Old, x.Count = n, n, n, n
		case api.InstrStore:
			x.Reg, x.Old, x.Count = n, n, n
		case api.InstrSwap:
			x.From, x.Count = n, n
		case api.InstrFence:
			x.Reg, x.Addr, x.Value, x.From, x.Old, x.Count = n, n, n, n, n, n
		case api.InstrSet, api.InstrAdd:
			x.Addr, x.From, x.Old, x.Count = n, n, n, n
		case api.InstrSkip:
			x.Addr, x.From, x.Old = n, n, n
		}
		got = append(got, x)
	}
	return got
}

// kinds is one instruction of each kind.
func kinds() []api.Instr {
	return []api.Instr{load(1, 2), store(2, 5), storeReg(2, 1), swap(1, 2, 30, 6), swap(1, 2, 31, 6), fence(), set(1, 9), add(1, 9), skip(1, 1, 2), skip(1, 1, 3)}
}

// P19.1, P19.3: what a kind doesn't use is not looked at.
func TestUnusedFields(t *testing.T) {
	for _, o := range orders() {
		for _, b := range buffersOf(o) {
			for _, in := range kinds() {
				l, s := scene(o, in, b)
				want, happens, e := tso.Next(l, o, s, do(1))
				if e != api.OK {
					t.Fatal(e)
				}
				for _, x := range unlike(in) {
					other, s := scene(o, x, b)
					if e := tso.Check(other); e != api.OK {
						t.Errorf("%+v: %v", x, e)
					}
					wantNext(t, other, o, s, do(1), want, happens)
				}
			}
		}
	}
}

// P19.1: each kind, each order, in a run of its own: the words are seen by others when the document says so.
func TestWhoSees(t *testing.T) {
	l := litmus([]int{10, 20}, []api.Instr{store(0, 11), load(0, 0), fence()}, []api.Instr{load(0, 0), load(1, 0)})
	for _, x := range []struct {
		o     api.Order
		turns []api.Turn
		own   int
		seen  [2]int
		count int
	}{
		{api.OrderSC, turns{do(0), do(0), do(1), do(0), do(1)}, 11, [2]int{11, 11}, 5},
		{api.OrderTSO, turns{do(0), do(0), do(1), do(0), out(0), do(0), do(1)}, 11, [2]int{10, 11}, 6},
		{api.OrderPSO, turns{do(0), do(0), do(1), do(0), outOf(0, 1), outOf(0, 0), do(0), do(1)}, 11, [2]int{10, 11}, 6},
		{api.OrderPSO, turns{do(0), do(0), do(1), do(0), outOf(0, 1), do(0), do(1)}, 11, [2]int{10, 10}, 4},
	} {
		s, n, e := tso.Run(l, x.o, x.turns)
		got := fmt.Sprint(s.Regs, n, e)
		want := fmt.Sprint([]regs{{x.own}, {x.seen[0], x.seen[1]}}, x.count, api.OK)
		if got != want {
			t.Errorf("order %d, %+v: got %s, want %s", x.o, x.turns, got, want)
		}
	}
}
