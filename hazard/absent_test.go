package hazard_test

import (
	"math"
	"slices"
	"testing"

	"reclaim/api"
	"reclaim/hazard"
	"reclaim/machine"
	"reclaim/word"
)

// P5.5 and P9: parts of hazards that have nothing, nil parts, and parts that no hazards made end at
// once, and do nothing, at any desk.
func TestAbsentParts(t *testing.T) {
	var (
		retiring *hazard.Retiring
		scanning *hazard.Scanning
	)
	parts := map[string]machine.Task{
		"a nil retire": retiring, "a nil scan": scanning,
		"the zero retire": &hazard.Retiring{}, "the zero scan": &hazard.Scanning{},
	}
	for what, h := range absent() {
		for _, n := range []int{0, 1, -1, math.MaxInt, math.MinInt} {
			if h.Retire(0, n) == nil || h.Retire(n, 0) == nil || h.Scan(n) == nil {
				t.Errorf("%s: a nil part", what)
			}
		}
		parts["a retire of "+what], parts["a scan of "+what] = h.Retire(0, 0), h.Scan(0)
	}
	y := yardOf(t, example())
	y.call(t, register(0))
	before := y.m.Run()
	for what, part := range parts {
		for _, d := range []*machine.Desk{nil, {}} {
			if !part.Ready(d) || !part.Step(d) || !part.Ready(d) {
				t.Errorf("%s goes on", what)
			}
		}
		y.wantEnded(t, what, part)
	}
	y.wantOnlyCalls(t, before)
}

// P5.3: parts that have ended do nothing more, also where they could.
func TestPartsThatHaveEnded(t *testing.T) {
	y := yardOf(t, configOf(2, 2, 2, 0, 8))
	y.calls(t, register(0), register(1))
	y.taken(t, 0, 5)
	run := func(part machine.Task) {
		y.begin(t, 0, part)
		y.finish(t, 0)
	}
	again := func(parts ...machine.Task) {
		t.Helper()
		before, list := y.m.Run(), y.List(0)
		for _, part := range parts {
			y.wantEnded(t, "a part that has ended", part)
		}
		y.wantOnlyCalls(t, before)
		y.wantList(t, 0, list...)
	}
	empty, short, long := y.Scan(0), y.Retire(0, 0), y.Retire(0, 1)
	run(empty)
	again(empty)
	run(short)
	again(short, empty)
	run(long)
	again(long, short, empty)
	kept := y.Retire(0, 2)
	run(kept)
	y.wantList(t, 0, 2)
	again(long, short, empty, kept)
	cut := y.Scan(0)
	run(cut)
	y.wantList(t, 0)
	run(y.Retire(0, 3))
	again(cut, long)
}

// P5: at a desk that no machine handed out nothing panics, and no step makes an access.
func TestPartsAtNobodysDesk(t *testing.T) {
	for _, d := range []*machine.Desk{nil, {}} {
		y := yardOf(t, configOf(2, 2, 2, 1, 4))
		y.calls(t, register(0), post(0, 1))
		y.taken(t, 0, 2)
		before := y.m.Run()
		parts := []machine.Task{y.Retire(0, 1), y.Retire(0, 2), y.Scan(0), y.Scan(1)}
		for op, maker := range y.Kit() {
			for thread := range 2 {
				if task := maker(thread, api.Move{Op: op, Arg: 1}); task != nil {
					parts = append(parts, task)
				}
			}
		}
		for _, part := range parts {
			part.Ready(d)
			for range 60 {
				part.Step(d)
			}
		}
		wantRun(t, y.m.Run(), before)
	}
}

// oddWords are words of which most are none of their kind.
var oddWords = []uint64{0, 1, 2, 3, 4, 9, 1 << 31, 1<<32 - 1, 1 << 32, 1<<32 + 2, 1 << 33, math.MaxUint64}

// P5: over words that don't go with the hazards nothing panics; where all words are there, each step
// makes its access.
func TestOverOtherWords(t *testing.T) {
	c := configOf(2, 2, 1, 1, 3)
	size, _ := word.Size(c)
	for _, cell := range oddWords {
		for _, others := range oddWords {
			for _, count := range []int{size, 19, 13, 8, 1, 0} {
				words := slices.Repeat([]uint64{others}, count)
				if count > 6 {
					words[1] = cell
					for i := 7; i < count && i < 9; i++ {
						words[i] = 0
					}
				}
				h := hazard.New(arenaOf(t, c))
				m, _ := machine.New(2, words, h.Kit())
				for _, mv := range []api.Move{register(0), read(0, 0), post(0, 5), post(0, 6), register(1), scan(1),
					read(1, 2), clearing(0, 0), scan(0), unregister(1), unregister(0)} {
					m.Move(mv)
					for range 40 {
						before, busy := len(m.Run().Trace), m.Busy(mv.Thread)
						m.Move(step(mv.Thread))
						if made := len(m.Run().Trace) - before; count == size && busy && m.Busy(mv.Thread) && made != 1 {
							t.Fatalf("cell %x, others %x: %+v: a step makes %d accesses", cell, others, mv, made)
						}
					}
				}
				wantSlots(t, c, h)
			}
		}
	}
}

// wantSlots asks that lists have slots that there are.
func wantSlots(t *testing.T, c api.Config, h *hazard.Hazards) {
	t.Helper()
	for record := range c.Records {
		for _, slot := range h.List(record) {
			if slot < 0 || slot >= c.Slots {
				t.Fatalf("List(%d) = %v", record, h.List(record))
			}
		}
	}
}

// P5: a machine may have more threads, or fewer, than the configuration; those that the
// configuration doesn't have take no record.
func TestOnOtherMachines(t *testing.T) {
	c := configOf(2, 2, 1, 1, 3)
	for _, threads := range []int{1, 2, 16} {
		h := hazard.New(arenaOf(t, c))
		words, _ := word.First(c, 0)
		m, _ := machine.New(threads, words, h.Kit())
		for thread := 15; thread >= 0; thread-- {
			for op := api.OpRegister; op <= api.OpScan; op++ {
				if op == api.OpUnregister {
					continue
				}
				began := m.Move(api.Move{Thread: thread, Op: op})
				if began != (thread < threads && thread < c.Threads) {
					t.Errorf("%d threads: op %d of thread %d: %v", threads, op, thread, began)
				}
				for range 60 {
					m.Move(step(thread))
				}
			}
		}
		if h.Record(min(threads, c.Threads)-1) != 0 {
			t.Errorf("%d threads: Record = %d", threads, h.Record(min(threads, c.Threads)-1))
		}
	}
}

// A cell whose word is no plain link to a slot that there is names none: a read finds it empty, a
// post has nothing to retire, and a hazard with such a word keeps nothing.
func TestWordsThatNameNoSlot(t *testing.T) {
	for _, none := range []uint64{link(3), 1 << 31, 1 << 32, 1<<32 + 1, math.MaxUint64} {
		y := yardOf(t, configOf(1, 1, 1, 0, 3))
		y.call(t, register(0))
		y.call(t, poked(0, 1, none))
		if got := y.call(t, read(0, 0)); got.Answer != empty || got.End-got.Begin != 1 {
			t.Errorf("%x: %+v", none, got)
		}
		y.call(t, poked(0, y.Addr(0, 1), none))
		if got := y.call(t, post(0, 1)); got.Answer != done || got.End-got.Begin != 6 {
			t.Errorf("%x: %+v", none, got)
		}
		y.call(t, post(0, 2))
		y.wantList(t, 0)
		y.wantState(t, 0, api.StateFree, -1)
	}
}
