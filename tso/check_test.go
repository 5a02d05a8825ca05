package tso_test

import (
	"testing"

	"reclaim/api"
	"reclaim/tso"
)

func wantCheck(t *testing.T, l api.Litmus, want api.Errno) {
	t.Helper()
	if got := tso.Check(l); got != want {
		t.Errorf("%s: %v, not %v", code(l), got, want)
	}
	s, e := tso.Begin(l)
	if e != want || want != api.OK && !isNoState(s) {
		t.Errorf("Begin of %s: %+v, %v", code(l), s, e)
	}
}

// P19.3: 1 to 4 threads, 1 to 6 words, at most 10 instructions.
func TestSizes(t *testing.T) {
	for threads := range 7 {
		for words := range 9 {
			want := api.ErrLitmus
			if threads >= 1 && threads <= 4 && words >= 1 && words <= 6 {
				want = api.OK
			}
			wantCheck(t, litmus(make([]int, words), make(codes, threads)...), want)
		}
	}
	for n := range 14 {
		for threads := 1; threads <= 4; threads++ {
			all := make(codes, threads)
			all[threads-1] = times(n, fence())
			want := api.ErrLitmus
			if n <= 10 {
				want = api.OK
			}
			wantCheck(t, litmus([]int{0}, all...), want)
		}
	}
	wantCheck(t, api.Litmus{}, api.ErrLitmus)
	wantCheck(t, litmus(make([]int, 6), times(10, load(3, 5)), times(10, store(5, 1)), times(10, set(3, 1)), times(10, skip(10, 3, 1))), api.OK)
}

// P19.3: a kind is one of the seven.
func TestKinds(t *testing.T) {
	for kind := -3; kind <= 12; kind++ {
		want := api.ErrLitmus
		if kind >= 1 && kind <= 7 {
			want = api.OK
		}
		wantCheck(t, litmus([]int{0}, []api.Instr{{Kind: api.InstrKind(kind)}}), want)
	}
	for _, kind := range []api.InstrKind{least, greatest, 1 << 32, 1<<32 + 1, 1<<8 + 1} {
		wantCheck(t, litmus([]int{0}, []api.Instr{{Kind: kind}}), api.ErrLitmus)
	}
}

// numbers are those at the bounds of some field, and far beyond.
func numbers(least1, greatest1 int) (in, beyond []int) {
	for n := least1; n <= greatest1; n++ {
		in = append(in, n)
	}
	return in, []int{least1 - 1, greatest1 + 1, least1 - 7, greatest1 + 7, least1 + 1<<32, greatest1 + 1<<32, least, greatest}
}

// P19.3: each field of each kind at its bounds and beyond them, at each place of each thread.
func TestFields(t *testing.T) {
	const words = 3
	fields := []struct {
		least, greatest int
		set             func(in *api.Instr, n int)
		kinds           []api.InstrKind
	}{
		{0, api.LitmusRegs - 1, func(in *api.Instr, n int) { in.Reg = n }, []api.InstrKind{api.InstrLoad, api.InstrSwap, api.InstrSet, api.InstrAdd, api.InstrSkip}},
		{0, words - 1, func(in *api.Instr, n int) { in.Addr = n }, []api.InstrKind{api.InstrLoad, api.InstrStore, api.InstrSwap}},
		{-1, api.LitmusRegs - 1, func(in *api.Instr, n int) { in.From = n }, []api.InstrKind{api.InstrStore}},
		{0, api.MaxCode, func(in *api.Instr, n int) { in.Count = n }, []api.InstrKind{api.InstrSkip}},
	}
	for _, f := range fields {
		in, beyond := numbers(f.least, f.greatest)
		for _, kind := range f.kinds {
			for _, n := range in {
				x := api.Instr{Kind: kind}
				f.set(&x, n)
				wantCheck(t, litmus(make([]int, words), nil, []api.Instr{fence(), x}), api.OK)
			}
			for i, n := range beyond {
				x := api.Instr{Kind: kind}
				f.set(&x, n)
				all := make(codes, 3)
				all[i%3] = append(times(i, set(0, 1)), x, fence())
				wantCheck(t, litmus(make([]int, words), all...), api.ErrLitmus)
			}
		}
	}
}

// P19.3: fields that a kind doesn't look at, and values, may be any number.
func TestFreeFields(t *testing.T) {
	for _, in := range kinds() {
		for _, x := range unlike(in) {
			wantCheck(t, litmus(make([]int, 3), []api.Instr{x}), api.OK)
		}
	}
	for _, n := range []int{-1, least, greatest} {
		for kind := api.InstrLoad; kind <= api.InstrSkip; kind++ {
			wantCheck(t, litmus([]int{n}, []api.Instr{{Kind: kind, Value: n, Old: n}}), api.OK)
		}
	}
}

// P19.3: a word's number is one of the program's own words.
func TestAddrOfWords(t *testing.T) {
	for words := 1; words <= 6; words++ {
		for addr := range 8 {
			for _, in := range []api.Instr{load(0, addr), store(addr, 0), swap(0, addr, 0, 0)} {
				want := api.ErrLitmus
				if addr < words {
					want = api.OK
				}
				wantCheck(t, litmus(make([]int, words), []api.Instr{in}), want)
			}
		}
	}
}

// P19.3: the first state: the words as they are, and all else 0.
func TestBegin(t *testing.T) {
	for _, l := range []api.Litmus{
		litmus([]int{7}, nil),
		litmus([]int{1, 0, 7}, []api.Instr{set(0, 5)}, nil, []api.Instr{store(1, 2)}),
		litmus([]int{least, -1, 0, 1, 2, greatest}, times(10, add(1, 1)), nil, nil, times(3, fence())),
	} {
		n := len(l.Threads)
		want := api.LitmusState{Words: l.Words, Regs: make([]regs, n), Places: make([]int, n), Buffers: make([][]api.Pending, n)}
		if got := begin(t, l); !sameState(got, want) {
			t.Errorf("%s: %+v", code(l), got)
		}
	}
}
