package tso_test

import (
	"slices"
	"testing"

	"reclaim/api"
	"reclaim/tso"
)

type known struct {
	name string
	l    api.Litmus
}

// table is the chapter's, once more.
func table() []known {
	i := func(all ...api.Instr) []api.Instr { return all }
	two := []int{0, 0}
	three := []int{1, 0, 7}
	reclaimer := i(swap(0, 0, 1, 0), load(1, 1), skip(1, 1, 1), store(2, -1))
	return []known{
		{"SB", litmus(two, i(store(0, 1), load(0, 1)), i(store(1, 1), load(0, 0)))},
		{"MP", litmus(two, i(store(0, 1), store(1, 1)), i(load(0, 1), load(1, 0)))},
		{"LB", litmus(two, i(load(0, 0), store(1, 1)), i(load(0, 1), store(0, 1)))},
		{"IRIW", litmus(two, i(store(0, 1)), i(store(1, 1)), i(load(0, 0), load(1, 1)), i(load(0, 1), load(1, 0)))},
		{"R", litmus(two, i(store(0, 1), store(1, 1)), i(store(1, 2), load(0, 0)))},
		{"S", litmus(two, i(store(0, 2), store(1, 1)), i(load(0, 1), store(0, 1)))},
		{"2+2W", litmus(two, i(store(0, 1), store(1, 2)), i(store(1, 1), store(0, 2)))},
		{"SB+fence", litmus(two, i(store(0, 1), fence(), load(0, 1)), i(store(1, 1), fence(), load(0, 0)))},
		{"protect", litmus(three, i(store(1, 1), load(0, 0), skip(1, 0, 0), load(1, 2)), reclaimer)},
		{"protect+fence", litmus(three, i(store(1, 1), fence(), load(0, 0), skip(1, 0, 0), load(1, 2)), reclaimer)},
	}
}

// P19.9: the names, in their order, and the program of each, with all its fields.
func TestClassics(t *testing.T) {
	var names []string
	for _, x := range table() {
		names = append(names, x.name)
		got, ok := tso.Classic(x.name)
		if !ok || !sameLitmus(got, x.l) {
			t.Errorf("%s:\ngot  %s, %v\nwant %s", x.name, code(got), ok, code(x.l))
		}
		if e := tso.Check(got); e != api.OK {
			t.Errorf("%s: %v", x.name, e)
		}
	}
	if got := tso.Names(); !slices.Equal(got, names) {
		t.Errorf("%q", got)
	}
}

// P19.9: another name is none.
func TestNoClassics(t *testing.T) {
	for _, name := range []string{"", "sb", "SB ", " SB", "Sb", "SB+Fence", "SB+", "SB+fence+fence", "MP+fence", "2+2w", "2+2", "W", "protect+", "protect+fences", "PROTECT", "IRI", "SB\x00", "SB\n", "S B", "\xff", "0", "mp"} {
		if l, ok := tso.Classic(name); ok || !isNoLitmus(l) {
			t.Errorf("%q: %s, %v", name, code(l), ok)
		}
	}
}

// may tells under which orders a program of a name may end so.
func may(t *testing.T, name string, so func(api.Final) bool) [3]bool {
	t.Helper()
	var got [3]bool
	for i, o := range orders() {
		got[i] = someFinal(finals(t, classic(t, name), o), so)
	}
	return got
}

// P19.13: what the classics may leave, and under which orders.
func TestWhatClassicsLeave(t *testing.T) {
	never, psoAlone, weakAlone := [3]bool{}, [3]bool{2: true}, [3]bool{1: true, 2: true}
	zeros := func(f api.Final) bool { return f.Regs[0][0] == 0 && f.Regs[1][0] == 0 }
	freed := func(f api.Final) bool { return f.Regs[0][1] == -1 }
	for _, x := range []struct {
		name string
		so   func(api.Final) bool
		want [3]bool
	}{
		{"SB", zeros, weakAlone},
		{"SB+fence", zeros, never},
		{"MP", func(f api.Final) bool { return f.Regs[1] == regs{1, 0} }, psoAlone},
		{"LB", func(f api.Final) bool { return f.Regs[0][0] == 1 && f.Regs[1][0] == 1 }, never},
		{"IRIW", func(f api.Final) bool { return f.Regs[2] == regs{1, 0} && f.Regs[3] == regs{1, 0} }, never},
		{"R", func(f api.Final) bool { return f.Words[1] == 2 && f.Regs[1][0] == 0 }, weakAlone},
		{"S", func(f api.Final) bool { return f.Regs[1][0] == 1 && f.Words[0] == 2 }, psoAlone},
		{"2+2W", func(f api.Final) bool { return f.Words[0] == 1 && f.Words[1] == 1 }, psoAlone},
		{"protect", freed, weakAlone},
		{"protect+fence", freed, never},
	} {
		if got := may(t, x.name, x.so); got != x.want {
			t.Errorf("%s: %v, not %v", x.name, got, x.want)
		}
	}
}

// P19.6: the ends of the classics, all of them, by the second machine's search.
func TestEndsOfClassics(t *testing.T) {
	for _, x := range table() {
		for _, o := range orders() {
			p := plain{x.l, o}
			g := p.graph(api.MaxStates)
			all := p.finals(g)
			wantFinals(t, classic(t, x.name), o, all...)
			for _, f := range all {
				way, _ := p.reach(g, f)
				wantWay(t, x.l, o, f, way...)
			}
		}
	}
}
