package tso_test

import (
	"slices"
	"testing"

	"reclaim/api"
	"reclaim/tso"
)

// P19.6: words ahead of registers, those thread by thread, the lesser number first.
func TestFinalsOrder(t *testing.T) {
	// Thread 0 leaves 5 or -5 in word 1, whichever store is last; thread 1 sees what it sees.
	l := litmus([]int{0, 0}, []api.Instr{store(1, 5)}, []api.Instr{store(1, -5)}, []api.Instr{load(3, 1)})
	want := []api.Final{}
	for _, word := range []int{-5, 5} {
		for _, seen := range []int{-5, 0, 5} {
			want = append(want, api.Final{Words: []int{0, word}, Regs: []regs{{}, {}, {3: seen}}})
		}
	}
	for _, o := range orders() {
		wantFinals(t, l, o, want...)
	}
	// Words count more than registers, thread 0's registers more than thread 1's, register 0 more than register 3.
	l = litmus([]int{0}, []api.Instr{load(3, 0), load(0, 0)}, []api.Instr{store(0, least)}, []api.Instr{load(1, 0)})
	want = nil
	for _, r := range []regs{{0: least}, {0: least, 3: least}, {}} {
		for _, seen := range []int{least, 0} {
			want = append(want, api.Final{Words: []int{least}, Regs: []regs{r, {}, {1: seen}}})
		}
	}
	slices.SortFunc(want, compareFinals)
	for _, o := range orders() {
		wantFinals(t, l, o, want...)
	}
}

// P19.6: each once, rising.
func TestFinalsOnce(t *testing.T) {
	d := newDice(31)
	for range 400 {
		l := d.small()
		for _, o := range orders() {
			all, e := tso.Finals(l, o)
			if e == api.OK && len(all) == 0 {
				t.Errorf("no end of %s", code(l))
			}
			for i := 1; i < len(all); i++ {
				if compareFinals(all[i-1], all[i]) >= 0 {
					t.Errorf("order %d, %s: %+v, then %+v", o, code(l), all[i-1], all[i])
				}
			}
		}
	}
}

// P19.6: numbers far from each other are in order, without a difference that wraps.
func TestFinalsFarNumbers(t *testing.T) {
	l := litmus([]int{0}, []api.Instr{store(0, greatest)}, []api.Instr{store(0, least)}, []api.Instr{load(0, 0)})
	var want []api.Final
	for _, word := range []int{least, greatest} {
		for _, seen := range []int{least, 0, greatest} {
			want = append(want, api.Final{Words: []int{word}, Regs: []regs{{}, {}, {seen}}})
		}
	}
	for _, o := range orders() {
		wantFinals(t, l, o, want...)
	}
}

// P19.6: threads without instructions leave the words as they are.
func TestFinalsOfNothing(t *testing.T) {
	for _, o := range orders() {
		wantFinals(t, litmus([]int{3, least}, nil, nil), o, api.Final{Words: []int{3, least}, Regs: []regs{{}, {}}})
		wantFinals(t, litmus([]int{3, 4, 5, 6, 7, 8}, nil), o, api.Final{Words: []int{3, 4, 5, 6, 7, 8}, Regs: []regs{{}}})
	}
}

// local is a thread of so many instructions of its own and then stores of its own word, each of which can be seen: by
// itself it can come to m + (s+1)(s+2)/2 states under a weak order.
func local(m, s, addr int) []api.Instr {
	all := times(m, set(0, 0))
	for i := range s {
		all = append(all, store(addr, i+1))
	}
	return all
}

// justMost has 25 * 24 * 10 * 5 = 30000 states under the weak orders.
func justMost() api.Litmus {
	return litmus([]int{0, 0}, local(4, 5, 0), local(3, 5, 1), local(9, 0, 0), local(4, 0, 0))
}

// oneMore has 19 * 1579 = 30001 states under the weak orders.
func oneMore() api.Litmus {
	return litmus([]int{0, 0, 0},
		[]api.Instr{fence(), load(0, 1), store(0, 2), load(0, 1)},
		[]api.Instr{fence(), store(1, 1), fence(), load(0, 1), fence()},
		[]api.Instr{fence(), store(1, 2), fence(), store(0, 2), load(0, 1)},
		local(4, 4, 2))
}

func wantTooMany(t *testing.T, l api.Litmus, o api.Order) {
	t.Helper()
	if got, e := tso.Finals(l, o); e != api.ErrStates || got != nil {
		t.Errorf("order %d, %s: %d ends, %v", o, code(l), len(got), e)
	}
	if got, e := tso.Reach(l, o, api.Final{}); e != api.ErrStates || got != nil {
		t.Errorf("order %d, %s: %+v, %v", o, code(l), got, e)
	}
}

// P19.6, P19.7: 30000 states, and not one more.
func TestMostStates(t *testing.T) {
	l := justMost()
	for _, o := range weak() {
		if n := len((plain{l, o}).graph(api.MaxStates + 9).states); n != api.MaxStates {
			t.Fatalf("%d states", n)
		}
		end := api.Final{Words: []int{5, 5}, Regs: make([]regs, 4)}
		wantFinals(t, l, o, end)
		if way := reach(t, l, o, end); len(way) != 9+8+9+4+5+5 {
			t.Errorf("%d turns", len(way))
		}
	}
	more := oneMore()
	for _, o := range weak() {
		if n := len((plain{more, o}).graph(api.MaxStates + 9).states); n != api.MaxStates+1 {
			t.Fatalf("%d states", n)
		}
		wantTooMany(t, more, o)
	}
	less := cloneLitmus(more)
	less.Threads[3] = local(3, 4, 2)
	p := plain{less, api.OrderPSO}
	g := p.graph(api.MaxStates)
	if len(g.states) != 18*1579 {
		t.Fatalf("%d states", len(g.states))
	}
	wantFinals(t, less, api.OrderPSO, p.finals(g)...)
}

// P19.6: many more states under each order, of programs as great as may be too.
func TestFarTooManyStates(t *testing.T) {
	great := litmus(make([]int, 6))
	for i := range 4 {
		var all []api.Instr
		for j := range 5 {
			all = append(all, load(j%4, (i+j)%6), store((i*j)%6, 10*i+j))
		}
		great.Threads = append(great.Threads, all)
	}
	for _, o := range orders() {
		wantTooMany(t, great, o)
	}
	four := make(codes, 4)
	for i := range four {
		four[i] = times(10, add(0, 1))
	}
	for _, o := range orders() {
		wantFinals(t, litmus([]int{0}, four...), o, api.Final{Words: []int{0}, Regs: []regs{{10}, {10}, {10}, {10}}})
	}
	for i := range four {
		four[i] = local(0, 6, i)
	}
	wantFinals(t, litmus(make([]int, 4), four...), api.OrderSC, api.Final{Words: []int{6, 6, 6, 6}, Regs: make([]regs, 4)})
	for _, o := range weak() {
		wantTooMany(t, litmus(make([]int, 4), four...), o)
	}
}

// P19.6: two buffers of the same stores that came into them in another order are two states, under OrderPSO too.
func TestBuffersAreLists(t *testing.T) {
	// By what it sees, thread 0 stores into 1 and then 2, or into 2 and then 1; then it forgets what it saw.
	either := []api.Instr{load(0, 0), skip(1, 0, 0), store(1, 1), store(2, 1), skip(1, 0, 1), store(1, 1), set(0, 0)}
	l := litmus(make([]int, 5), either, []api.Instr{store(0, 1)})
	lists, sets := plain{l, api.OrderPSO}.graph(api.MaxStates), map[string]int{}
	for _, s := range lists.states {
		slices.SortFunc(s.Buffers[0], func(a, b api.Pending) int { return a.Addr - b.Addr })
		sets[name(s)]++
	}
	own := (5 + 21) * (5 + 15) // of two threads that are by themselves
	if len(sets)*own > api.MaxStates || len(lists.states)*own <= api.MaxStates {
		t.Fatalf("%d, %d states", len(sets)*own, len(lists.states)*own)
	}
	l.Threads = append(l.Threads, local(5, 5, 3), local(5, 4, 4))
	wantTooMany(t, l, api.OrderPSO)
}
