package table_test

import (
	"math"
	"slices"
	"testing"

	"reclaim/api"
	"reclaim/arena"
	"reclaim/hazard"
	"reclaim/machine"
	"reclaim/table"
	"reclaim/word"
)

// P9.1: over hazards that are not there, and such as New didn't make or made over no arena, an empty kit.
func TestKitOverNothing(t *testing.T) {
	for what, h := range map[string]*hazard.Hazards{
		"nil": nil, "zero": {}, "over a nil arena": hazard.New(nil), "over the zero arena": hazard.New(&arena.Arena{}),
	} {
		kit := table.Kit(h)
		if len(kit) != 0 {
			t.Errorf("%s: a kit of %d calls", what, len(kit))
		}
		m, e := machine.New(1, []uint64{1, 2, 3}, kit)
		if e != api.OK || m.Move(add(0, 1, 1)) || m.Move(remove(0, 1)) || m.Move(get(0, 1)) {
			t.Errorf("%s: a call is begun", what)
		}
	}
}

// made makes calls of thread 0 over a table of the key 5, as the kit makes them.
func (y *yard) made() []machine.Task {
	var tasks []machine.Task
	for _, mv := range []api.Move{add(0, 5, 1), add(0, 3, 1), remove(0, 5), remove(0, 7), remove(0, 4), get(0, 5), get(0, 7)} {
		tasks = append(tasks, table.Kit(y.Hazards)[mv.Op](0, mv))
	}
	return tasks
}

// wantNothingDone begins a task as a call of thread 0, and asks that its first step ends it, makes no
// access, and tells No and no point.
func (y *yard) wantNothingDone(t *testing.T, task machine.Task) {
	t.Helper()
	before := y.m.Run()
	y.begin(t, 0, task)
	if steps := y.finish(t, 0); steps != 1 {
		t.Errorf("%d steps", steps)
	}
	y.wantOnlyCalls(t, before)
	if got := y.last(0); got.Answer != no || got.Point != -1 {
		t.Errorf("%+v", got)
	}
}

// stepped is a task whose Ready nobody calls.
type stepped struct{ machine.Task }

func (s stepped) Ready(*machine.Desk) bool { return false }

// P5: a call whose thread has let its record go ahead of the first step finds nothing there, whether or
// not it is asked to be ready.
func TestCallsThatLoseTheirRecord(t *testing.T) {
	y := tableOf(t, 5)
	ready, step := y.made(), y.made()
	y.call(t, unregister(0))
	for _, task := range ready {
		y.wantNothingDone(t, task)
	}
	for _, task := range step {
		y.wantNothingDone(t, stepped{task})
	}
	y.wantTens(t, 5)
}

// P5: one that has let it go on its way comes to an end, too.
func TestCallsThatLoseTheirRecordOnTheWay(t *testing.T) {
	for number := range tableOf(t, 5).made() {
		for steps := 1; steps <= 12; steps++ {
			y := tableOf(t, 5)
			y.begin(t, 1, y.made()[number])
			for range steps {
				y.m.Move(step(1))
			}
			y.call(t, unregister(0))
			y.finish(t, 1)
		}
	}
}

// P1: one that comes to a part when there is no record any more ends there, in the step of its last access.
func TestCallsThatEndWithoutARecord(t *testing.T) {
	for _, c := range []struct {
		mv    api.Move
		ahead int      // the steps up to the loss
		poke  api.Move // what overtakes it there
		left  int      // the steps behind it
		want  api.Answer
	}{
		{get(0, 5), 7, poked(0, 8, 0), 2, value(50)}, // Find's last line, the load
		{get(0, 3), 7, poked(0, 8, 0), 1, no},
		{remove(0, 5), 8, poked(0, 34, link(1)), 1, no},        // the mark is overtaken: no Find anew
		{remove(0, 5), 10, poked(0, 7, link(1)), 1, value(50)}, // the swap is overtaken: no Find anew
		{remove(0, 5), 10, poked(0, 8, 0), 1, value(50)},       // it is not: no Retire
	} {
		y := tableOf(t, 5)
		y.begin(t, 1, table.Kit(y.Hazards)[c.mv.Op](0, c.mv))
		y.steps(t, 1, c.ahead)
		y.calls(t, unregister(0), c.poke)
		if steps := y.finish(t, 1); steps != c.left {
			t.Errorf("%+v: %d steps more, not %d", c.mv, steps, c.left)
		}
		y.wantAnswer(t, 1, c.want)
	}
}

// P5: at a desk that no machine handed out nothing panics, and no step makes an access.
func TestAtNobodysDesk(t *testing.T) {
	for _, d := range []*machine.Desk{nil, {}} {
		y := yardOf(t, configOf(2, 2, 1, 1, 4, 2))
		y.calls(t, register(0), register(1), add(0, 1, 10), add(0, 2, 20), remove(0, 1))
		before := y.m.Run()
		for thread := range 2 {
			for op, maker := range table.Kit(y.Hazards) {
				for _, arg := range []int{1, 2} {
					task := maker(thread, api.Move{Op: op, Arg: arg})
					task.Ready(d)
					for range 60 {
						task.Step(d)
					}
					task.Ready(d)
				}
			}
		}
		wantRun(t, y.m.Run(), before)
	}
}

// P5: calls that have ended do nothing more.
func TestCallsThatHaveEnded(t *testing.T) {
	y := yardOf(t, configOf(1, 1, 1, 1, 2, 2))
	y.call(t, register(0))
	kit := table.Kit(y.Hazards)
	for _, mv := range []api.Move{
		remove(0, 1), get(0, 1), add(0, 1, 9), add(0, 1, 8), get(0, 1), add(0, 2, 7), add(0, 3, 6), remove(0, 1), remove(0, 2), add(0, 4, 5),
	} {
		task := kit[mv.Op](0, mv)
		y.begin(t, 0, task)
		y.finish(t, 0)
		before := y.m.Run()
		y.begin(t, 0, task)
		if steps := y.finish(t, 0); steps != 1 {
			t.Errorf("%+v makes %d steps more", mv, steps)
		}
		y.wantOnlyCalls(t, before)
	}
}

// oddWords are words of which most are none of their kind.
var oddWords = []uint64{0, 1, 2, 3, 4, 9, 1 << 31, 1<<32 - 1, 1 << 32, 1<<32 + 1, 1<<32 + 2, 1 << 33, math.MaxUint64}

// P5: over words that don't go with the hazards nothing panics; where all words are there, each step
// makes its access.
func TestOverOtherWords(t *testing.T) {
	c := configOf(2, 2, 1, 1, 3, 2)
	size, _ := word.Size(c)
	for _, root := range oddWords {
		for _, others := range oddWords {
			for _, count := range []int{size, 20, 13, 8, 4, 1, 0} {
				for _, at := range []int{freeAddr, firstRoot, firstRoot + 1, addrOf(c, api.RegionLink, 0, 0), addrOf(c, api.RegionLink, 1, 0)} { // which word is odd beside the others
					words := slices.Repeat([]uint64{others}, count)
					if at < count {
						words[at] = root
					}
					for i := 8; i < count && i < 10; i++ {
						words[i] = 0
					}
					overWords(t, c, words, count == size)
				}
			}
		}
	}
}

// overWords makes calls over words, one behind the other, each for as many steps as it may go on.
func overWords(t *testing.T, c api.Config, words []uint64, entire bool) {
	t.Helper()
	const most = 40
	h := hazard.New(arenaOf(t, c))
	m, _ := machine.New(2, words, machine.Join(h.Kit(), table.Kit(h)))
	for _, mv := range []api.Move{register(0), get(0, 3), add(0, 5, 7), register(1), remove(1, 5), add(1, -6, 6), remove(1, 1),
		get(0, 1), remove(0, 2), scan(1), unregister(1), unregister(0)} {
		m.Move(mv)
		for range most {
			m.Move(step(mv.Thread))
		}
	}
	r := m.Run()
	made := map[int]int{} // of each move, its accesses
	for _, a := range r.Trace {
		made[a.Move]++
	}
	for _, call := range r.Calls {
		end := call.End
		if end < 0 {
			end = call.Begin + most
		}
		for move := call.Begin + 1; entire && move <= end; move++ {
			if made[move] != 1 {
				t.Fatalf("over %x: %+v: move %d makes %d accesses", words, call, move, made[move])
			}
		}
	}
}

// P5: a machine may have more threads, or fewer, than the configuration; those that the configuration
// doesn't have hold no record, and begin nothing.
func TestOnOtherMachines(t *testing.T) {
	c := configOf(2, 2, 1, 1, 3, 2)
	for _, threads := range []int{1, 2, 16} {
		h := hazard.New(arenaOf(t, c))
		words, _ := word.First(c, 0)
		m, _ := machine.New(threads, words, machine.Join(h.Kit(), table.Kit(h)))
		for thread := 15; thread >= 0; thread-- {
			for _, mv := range []api.Move{register(thread), add(thread, 1, 2), get(thread, 1), remove(thread, 1)} {
				if began := m.Move(mv); began != (thread < threads && thread < c.Threads) {
					t.Errorf("%d threads: %+v: %v", threads, mv, began)
				}
				for range 60 {
					m.Move(step(thread))
				}
			}
		}
	}
}

// P6: a kit is a new map.
func TestKitsApart(t *testing.T) {
	h := hazard.New(arenaOf(t, example()))
	kit := table.Kit(h)
	delete(kit, api.OpAdd)
	kit[api.OpRemove] = nil
	if again := table.Kit(h); len(again) != len(ops) || again[api.OpRemove] == nil {
		t.Error("a kit is shared")
	}
	none := table.Kit(nil)
	if none != nil {
		none[api.OpAdd] = func(int, api.Move) machine.Task { return nil }
	}
	if len(table.Kit(nil)) != 0 {
		t.Error("an empty kit is shared")
	}
}

// P6: what is handed in is left as it is, its spare room too; runs share nothing, and nothing with the moves.
func TestRunsApart(t *testing.T) {
	script := slices.Concat(with(register(0), 2), with(add(0, 5, 50), 11), with(get(0, 5), 12), with(remove(0, 5), 14))
	room := append(make([]api.Move, 0, 70), script...)
	copied := slices.Clone(room[:cap(room)])
	r := playOf(t, example(), room...)
	if !slices.Equal(room[:cap(room)], copied) {
		t.Error("the moves are changed")
	}
	first := playOf(t, example(), room...)
	for i := range r.Words {
		r.Words[i] = 99
	}
	clear(r.Calls[:cap(r.Calls)])
	clear(r.Trace[:cap(r.Trace)])
	clear(r.Shifts[:cap(r.Shifts)])
	clear(room)
	wantRun(t, playOf(t, example(), script...), first)
}

// P6: two tables over two arenas share nothing.
func TestTablesApart(t *testing.T) {
	one, other := tableOf(t), tableOf(t)
	one.calls(t, add(0, 1, 10), add(1, 2, 20))
	other.wantPairs(t, nil)
	other.wantState(t, 0, api.StateFree, -1)
	if got := other.call(t, get(0, 1)); got.Answer != no {
		t.Errorf("%+v", got)
	}
	one.wantTens(t, 1, 2)
}
