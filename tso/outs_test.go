package tso_test

import (
	"slices"
	"testing"

	"reclaim/api"
)

// wantOut holds a turn of thread 1's buffer against the store that leaves it, by its number; -1: none does.
func wantOut(t *testing.T, o api.Order, buffer waits, turn api.Turn, leaves int) {
	t.Helper()
	l, s := scene(o, fence(), buffer)
	want := cloneState(s)
	if leaves >= 0 {
		want.Words[buffer[leaves].Addr] = buffer[leaves].Value
		want.Buffers[1] = slices.Delete(want.Buffers[1], leaves, leaves+1)
	}
	wantNext(t, l, o, s, turn, want, leaves >= 0)
}

func manyStores() waits {
	return waiting(1, 5, 0, 6, 1, 7, 2, 8, 2, 9, 0, 10, 1, 11, 1, 12, 0, 13, 2, least)
}

// P19.2: under OrderSC nothing goes out.
func TestOutSC(t *testing.T) {
	for addr := range 3 {
		wantOut(t, api.OrderSC, nil, outOf(1, addr), -1)
	}
}

// P19.2: under OrderTSO the oldest store of all goes out, whatever Addr is.
func TestOutTSO(t *testing.T) {
	for _, addr := range []int{0, 1, 2, 3, -1, least, greatest} {
		wantOut(t, api.OrderTSO, nil, outOf(1, addr), -1)
		all := manyStores()
		for len(all) > 0 {
			wantOut(t, api.OrderTSO, all, outOf(1, addr), 0)
			all = all[1:]
		}
	}
}

// P19.2: under OrderPSO the oldest store of the word goes out, whatever waits of others.
func TestOutPSO(t *testing.T) {
	all := manyStores()
	for _, x := range []struct{ addr, leaves int }{{0, 1}, {1, 0}, {2, 3}, {3, -1}, {-1, -1}, {least, -1}, {greatest, -1}, {1 << 32, -1}} {
		wantOut(t, api.OrderPSO, all, outOf(1, x.addr), x.leaves)
		wantOut(t, api.OrderPSO, nil, outOf(1, x.addr), -1)
	}
	wantOut(t, api.OrderPSO, all[1:], outOf(1, 1), 1)
	wantOut(t, api.OrderPSO, all[3:], outOf(1, 1), 3)
	wantOut(t, api.OrderPSO, all[9:], outOf(1, 2), 0)
	wantOut(t, api.OrderPSO, all[9:], outOf(1, 1), -1)
	wantOut(t, api.OrderPSO, all[9:], outOf(1, 0), -1)
}

// P19.2: stores of a word go out one behind the other, the oldest first.
func TestOutTillNone(t *testing.T) {
	l := litmus([]int{0, 0}, []api.Instr{store(0, 1), store(1, 2), store(0, 3), store(1, 4)})
	s := begin(t, l)
	s.Places[0], s.Buffers[0] = 4, waiting(0, 1, 1, 2, 0, 3, 1, 4)
	tso := [][2]int{{1, 0}, {1, 2}, {3, 2}, {3, 4}}
	pso := [][2]int{{0, 2}, {0, 4}, {1, 4}, {3, 4}}
	addrs := []int{1, 1, 0, 0}
	left := []waits{waiting(0, 1, 0, 3, 1, 4), waiting(0, 1, 0, 3), waiting(0, 3), nil}
	a, b := cloneState(s), cloneState(s)
	for i := range 4 {
		want := cloneState(a)
		want.Words, want.Buffers[0] = tso[i][:], want.Buffers[0][1:]
		wantNext(t, l, api.OrderTSO, a, out(0), want, true)
		a = want
		want = cloneState(b)
		want.Words, want.Buffers[0] = pso[i][:], left[i]
		wantNext(t, l, api.OrderPSO, b, outOf(0, addrs[i]), want, true)
		b = want
	}
	wantNext(t, l, api.OrderTSO, a, out(0), a, false)
	wantNext(t, l, api.OrderPSO, b, outOf(0, 0), b, false)
	wantNext(t, l, api.OrderPSO, b, outOf(0, 1), b, false)
}

// P19.2: a thread that there isn't lets nothing out; one that has ended does.
func TestOutOfWhom(t *testing.T) {
	for _, o := range orders() {
		for _, b := range buffersOf(o) {
			l, s := scene(o, fence(), b)
			for _, thread := range []int{-1, 2, 3, 4, 1 << 32, least, greatest} {
				for addr := range 3 {
					wantNext(t, l, o, s, outOf(thread, addr), s, false)
				}
			}
		}
	}
	for _, o := range weak() {
		l, s := scene(o, fence(), waiting(1, 5, 1, 6))
		s.Places[1] = 3
		want := cloneState(s)
		want.Words[1], want.Buffers[1] = 5, waiting(1, 6)
		wantNext(t, l, o, s, outOf(1, 1), want, true)
		want = cloneState(s)
		want.Words[0], want.Buffers[0] = 61, want.Buffers[0][1:]
		wantNext(t, l, o, s, outOf(0, 0), want, true)
	}
}
