package stack_test

import (
	"math"
	"slices"
	"testing"

	"reclaim/api"
	"reclaim/arena"
	"reclaim/hazard"
	"reclaim/machine"
	"reclaim/stack"
	"reclaim/word"
)

// P6.3: over no hazards, and over some that New didn't make or made over no arena, an empty kit.
func TestKitOverNothing(t *testing.T) {
	for what, h := range map[string]*hazard.Hazards{
		"nil": nil, "zero": {}, "over a nil arena": hazard.New(nil), "over the zero arena": hazard.New(&arena.Arena{}),
	} {
		kit := stack.Kit(h)
		if len(kit) != 0 {
			t.Errorf("%s: a kit of %d calls", what, len(kit))
		}
		m, e := machine.New(1, []uint64{1, 2, 3}, kit)
		if e != api.OK || m.Move(push(0, 1)) || m.Move(pop(0)) {
			t.Errorf("%s: a call is begun", what)
		}
	}
}

// P5: at a desk that no machine handed out nothing panics, and no step makes an access.
func TestAtNobodysDesk(t *testing.T) {
	for _, d := range []*machine.Desk{nil, {}} {
		y := yardOf(t, configOf(2, 2, 1, 1, 4))
		y.calls(t, register(0), register(1), push(0, 1), push(0, 2), pop(0))
		before := y.m.Run()
		for op, maker := range stack.Kit(y.Hazards) {
			for thread := range 2 {
				task := maker(thread, api.Move{Op: op, Arg: 1})
				task.Ready(d)
				for range 60 {
					task.Step(d)
				}
				task.Ready(d)
			}
		}
		wantRun(t, y.m.Run(), before)
	}
}

// P5: calls that have ended do nothing more.
func TestCallsThatHaveEnded(t *testing.T) {
	y := yardOf(t, configOf(1, 1, 1, 1, 2))
	y.call(t, register(0))
	kit := stack.Kit(y.Hazards)
	for _, mv := range []api.Move{pop(0), push(0, 1), push(0, 2), push(0, 3), pop(0), push(0, 4), pop(0), pop(0), pop(0)} {
		task := kit[mv.Op](0, mv)
		y.begin(t, 0, task)
		y.finish(t, 0)
		before := y.m.Run()
		y.begin(t, 0, task)
		if steps := y.finish(t, 0); steps != 1 {
			t.Errorf("%+v makes %d steps more", mv, steps)
		}
		y.wantOnlyCalls(t, before)
	}
}

// oddWords are words of which most are none of their kind.
var oddWords = []uint64{0, 1, 2, 3, 4, 9, 1 << 31, 1<<32 - 1, 1 << 32, 1<<32 + 2, 1 << 33, math.MaxUint64}

// P5: over words that don't go with the hazards nothing panics; where all words are there, each step
// makes its access.
func TestOverOtherWords(t *testing.T) {
	c := configOf(2, 2, 1, 1, 3)
	size, _ := word.Size(c)
	for _, top := range oddWords {
		for _, others := range oddWords {
			for _, count := range []int{size, 19, 13, 8, 1, 0} {
				words := slices.Repeat([]uint64{others}, count)
				if count > 6 {
					words[2] = top
					for i := 7; i < count && i < 9; i++ {
						words[i] = 0
					}
				}
				h := hazard.New(arenaOf(t, c))
				m, _ := machine.New(2, words, machine.Join(h.Kit(), stack.Kit(h)))
				for _, mv := range []api.Move{register(0), pop(0), push(0, 5), push(0, 6), register(1), pop(1), pop(1),
					pop(0), push(1, 7), scan(1), unregister(1), unregister(0)} {
					m.Move(mv)
					for range 40 {
						before, busy := len(m.Run().Trace), m.Busy(mv.Thread)
						m.Move(step(mv.Thread))
						if made := len(m.Run().Trace) - before; count == size && busy && m.Busy(mv.Thread) && made != 1 {
							t.Fatalf("Top %x, others %x: %+v: a step makes %d accesses", top, others, mv, made)
						}
					}
				}
			}
		}
	}
}

// A Top that is no plain link to a slot that there is names none: the stack is empty; a push puts
// that word behind its slot.
func TestWordsThatNameNoSlot(t *testing.T) {
	for _, none := range []uint64{link(3), 1 << 31, 1 << 32, 1<<32 + 1, math.MaxUint64} {
		y := yardOf(t, configOf(1, 1, 1, 0, 3))
		y.calls(t, register(0), poked(0, 2, none))
		if got := y.call(t, pop(0)); got.Answer != empty || got.End-got.Begin != 1 {
			t.Errorf("%x: %+v", none, got)
		}
		y.call(t, push(0, 1))
		if got := y.word(y.addr(api.RegionLink, 0, 0)); got != none {
			t.Errorf("the link is %x, not %x", got, none)
		}
		if got := y.call(t, pop(0)); got.Answer != value(1) || y.word(2) != none {
			t.Errorf("%x: %+v, Top is %x", none, got, y.word(2))
		}
	}
}

// P5: a machine may have more threads, or fewer, than the configuration; those that the
// configuration doesn't have hold no record, and begin nothing.
func TestOnOtherMachines(t *testing.T) {
	c := configOf(2, 2, 1, 1, 3)
	for _, threads := range []int{1, 2, 16} {
		h := hazard.New(arenaOf(t, c))
		words, _ := word.First(c, 0)
		m, _ := machine.New(threads, words, machine.Join(h.Kit(), stack.Kit(h)))
		for thread := 15; thread >= 0; thread-- {
			for _, mv := range []api.Move{register(thread), push(thread, 1), pop(thread)} {
				if began := m.Move(mv); began != (thread < threads && thread < c.Threads) {
					t.Errorf("%d threads: %+v: %v", threads, mv, began)
				}
				for range 60 {
					m.Move(step(thread))
				}
			}
		}
	}
}

// P6: a kit is a new map.
func TestKitsApart(t *testing.T) {
	h := hazard.New(arenaOf(t, example()))
	kit := stack.Kit(h)
	delete(kit, api.OpPush)
	kit[api.OpPop] = nil
	if again := stack.Kit(h); len(again) != 2 || again[api.OpPop] == nil {
		t.Error("a kit is shared")
	}
	none := stack.Kit(nil)
	if none != nil {
		none[api.OpPush] = func(int, api.Move) machine.Task { return nil }
	}
	if len(stack.Kit(nil)) != 0 {
		t.Error("an empty kit is shared")
	}
}

// P6: what is handed in is left as it is, its spare room too; runs share nothing.
func TestRunsApart(t *testing.T) {
	script := slices.Concat(with(register(0), 2), with(push(0, 5), 7), with(pop(0), 9))
	room := append(make([]api.Move, 0, 40), script...)
	copied := slices.Clone(room[:cap(room)])
	r := playOf(t, example(), room...)
	if !slices.Equal(room[:cap(room)], copied) {
		t.Error("the moves are changed")
	}
	first := playOf(t, example(), room...)
	for i := range r.Words {
		r.Words[i] = 99
	}
	clear(r.Calls[:cap(r.Calls)])
	clear(r.Trace[:cap(r.Trace)])
	clear(r.Shifts[:cap(r.Shifts)])
	clear(room)
	wantRun(t, playOf(t, example(), script...), first)
}

// P6: two stacks over two arenas share nothing.
func TestStacksApart(t *testing.T) {
	one, other := pair(t), pair(t)
	one.calls(t, push(0, 1), push(1, 2))
	other.wantStack(t)
	other.wantState(t, 0, api.StateFree, -1)
	if got := other.call(t, pop(0)); got.Answer != empty {
		t.Errorf("%+v", got)
	}
	one.wantStack(t, 2, 1)
}
