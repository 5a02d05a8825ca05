package tso_test

import (
	"testing"

	"reclaim/api"
	"reclaim/tso"
)

func wantFenced(t *testing.T, l, want api.Litmus) {
	t.Helper()
	if got, e := tso.Fenced(l); e != api.OK || !sameLitmus(got, want) {
		t.Errorf("%s:\ngot  %s, %v\nwant %s", code(l), code(got), e, code(want))
	}
}

// P19.8: a fence right behind each store of each thread, of numbers and of registers, and nowhere else.
func TestFenced(t *testing.T) {
	l := litmus([]int{1, 0, 7}, []api.Instr{store(1, 1), load(0, 0), storeReg(2, 0), fence(), add(0, 1)}, nil,
		[]api.Instr{swap(0, 0, 1, 0), set(1, 2), load(1, 1)}, []api.Instr{store(0, 1)})
	wantFenced(t, l, litmus([]int{1, 0, 7}, []api.Instr{store(1, 1), fence(), load(0, 0), storeReg(2, 0), fence(), fence(), add(0, 1)}, nil,
		[]api.Instr{swap(0, 0, 1, 0), set(1, 2), load(1, 1)}, []api.Instr{store(0, 1), fence()}))
}

// P19.8: the Count of a skip grows by the fences behind the stores that it leaves out.
func TestFencedSkips(t *testing.T) {
	behind := []api.Instr{store(0, 1), load(0, 0), store(0, 2), store(0, 3)}
	for count, want := range []int{0, 2, 3, 5, 7, 8, 9, 10, 10, 10, 10} {
		l := litmus([]int{0}, append([]api.Instr{skip(count, 0, 0)}, behind...))
		wantFenced(t, l, litmus([]int{0}, []api.Instr{skip(want, 0, 0), store(0, 1), fence(), load(0, 0), store(0, 2), fence(), store(0, 3), fence()}))
	}
}

// P19.8: stores ahead of a skip don't count, nor those of another thread; skips over skips do for themselves.
func TestFencedSkipsBetween(t *testing.T) {
	l := litmus([]int{0}, []api.Instr{store(0, 1), skip(2, 0, 0), skip(2, 1, 0), store(0, 2), store(0, 3)}, []api.Instr{skip(3, 0, 0), set(0, 1), set(0, 2), set(0, 3)})
	wantFenced(t, l, litmus([]int{0}, []api.Instr{store(0, 1), fence(), skip(3, 0, 0), skip(4, 1, 0), store(0, 2), fence(), store(0, 3), fence()}, l.Threads[1]))
	end := litmus([]int{0}, []api.Instr{store(0, 1), store(0, 1), skip(10, 0, 0)})
	wantFenced(t, end, litmus([]int{0}, []api.Instr{store(0, 1), fence(), store(0, 1), fence(), skip(10, 0, 0)}))
}

// P19.8: what a kind doesn't look at stays as it stands.
func TestFencedKeepsFields(t *testing.T) {
	for _, in := range kinds() {
		for _, x := range unlike(in) {
			want := []api.Instr{x}
			if x.Kind == api.InstrStore {
				want = append(want, fence())
			}
			wantFenced(t, litmus([]int{4, 5, 6}, []api.Instr{x}), litmus([]int{4, 5, 6}, want))
		}
	}
}

// P19.8: threads of 10 instructions, and not one more.
func TestFencedLong(t *testing.T) {
	for thread := range 4 {
		for stores := range 11 {
			for others := range 11 - stores {
				all := make(codes, 4)
				all[thread] = append(times(others, add(0, 1)), times(stores, store(0, 1))...)
				got, e := tso.Fenced(litmus([]int{0}, all...))
				if others+2*stores <= 10 {
					if e != api.OK || len(got.Threads[thread]) != others+2*stores {
						t.Errorf("%d stores, %d others: %s, %v", stores, others, code(got), e)
					}
				} else if e != api.ErrLong || !isNoLitmus(got) {
					t.Errorf("%d stores, %d others: %s, %v", stores, others, code(got), e)
				}
			}
		}
	}
}

// P19.8: fences again behind the stores of what has been fenced.
func TestFencedTwice(t *testing.T) {
	l := classic(t, "SB")
	once, _ := tso.Fenced(l)
	wantFenced(t, once, litmus([]int{0, 0}, []api.Instr{store(0, 1), fence(), fence(), load(0, 1)}, []api.Instr{store(1, 1), fence(), fence(), load(0, 0)}))
}
