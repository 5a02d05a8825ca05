package queue_test

import (
	"math"
	"slices"
	"testing"

	"reclaim/api"
	"reclaim/arena"
	"reclaim/hazard"
	"reclaim/machine"
	"reclaim/queue"
	"reclaim/word"
)

// P7.1: over no hazards, and over some that New didn't make or made over no arena, an empty kit.
func TestKitOverNothing(t *testing.T) {
	for what, h := range map[string]*hazard.Hazards{
		"nil": nil, "zero": {}, "over a nil arena": hazard.New(nil), "over the zero arena": hazard.New(&arena.Arena{}),
	} {
		kit := queue.Kit(h)
		if len(kit) != 0 {
			t.Errorf("%s: a kit of %d calls", what, len(kit))
		}
		m, e := machine.New(1, []uint64{1, 2, 3}, kit)
		if e != api.OK || m.Move(enqueue(0, 1)) || m.Move(dequeue(0)) {
			t.Errorf("%s: a call is begun", what)
		}
	}
}

// P5: at a desk that no machine handed out nothing panics, and no step makes an access.
func TestAtNobodysDesk(t *testing.T) {
	for _, d := range []*machine.Desk{nil, {}} {
		y := yardOf(t, configOf(2, 2, 1, 1, 4))
		y.calls(t, register(0), register(1), enqueue(0, 1), enqueue(0, 2), dequeue(0))
		before := y.m.Run()
		for op, maker := range queue.Kit(y.Hazards) {
			for thread := range 2 {
				task := maker(thread, api.Move{Op: op, Arg: 1})
				task.Ready(d)
				for range 60 {
					task.Step(d)
				}
				task.Ready(d)
			}
		}
		wantRun(t, y.m.Run(), before)
	}
}

// P5: calls that have ended do nothing more.
func TestCallsThatHaveEnded(t *testing.T) {
	y := yardOf(t, configOf(1, 1, 1, 1, 2))
	y.call(t, register(0))
	kit := queue.Kit(y.Hazards)
	for _, mv := range []api.Move{dequeue(0), enqueue(0, 1), enqueue(0, 2), enqueue(0, 3), dequeue(0), enqueue(0, 4), dequeue(0), dequeue(0), dequeue(0)} {
		task := kit[mv.Op](0, mv)
		y.begin(t, 0, task)
		y.finish(t, 0)
		before := y.m.Run()
		y.begin(t, 0, task)
		if steps := y.finish(t, 0); steps != 1 {
			t.Errorf("%+v makes %d steps more", mv, steps)
		}
		y.wantOnlyCalls(t, before)
	}
}

// oddWords are words of which most are none of their kind.
var oddWords = []uint64{0, 1, 2, 3, 4, 9, 1 << 31, 1<<32 - 1, 1 << 32, 1<<32 + 2, 1 << 33, math.MaxUint64}

// P5: over words that don't go with the hazards nothing panics; where all words are there, each step
// makes its access.
func TestOverOtherWords(t *testing.T) {
	c := configOf(2, 2, 1, 1, 3)
	size, _ := word.Size(c)
	for _, end := range oddWords {
		for _, others := range oddWords {
			for _, count := range []int{size, 19, 13, 8, 4, 1, 0} {
				for _, at := range []int{headAddr, tailAddr, tailAddr + 1} { // which word is odd beside the others
					words := slices.Repeat([]uint64{others}, count)
					if at < count {
						words[at] = end
					}
					for i := 7; i < count && i < 9; i++ {
						words[i] = 0
					}
					overWords(t, c, words, count == size)
				}
			}
		}
	}
}

// overWords makes calls over words, one behind the other, each for as many steps as it may go on.
func overWords(t *testing.T, c api.Config, words []uint64, whole bool) {
	t.Helper()
	const most = 40
	h := hazard.New(arenaOf(t, c))
	m, _ := machine.New(2, words, machine.Join(h.Kit(), queue.Kit(h)))
	for _, mv := range []api.Move{register(0), dequeue(0), enqueue(0, 5), register(1), dequeue(1), enqueue(1, 6), dequeue(1),
		dequeue(0), enqueue(0, 7), scan(1), unregister(1), unregister(0)} {
		m.Move(mv)
		for range most {
			m.Move(step(mv.Thread))
		}
	}
	r := m.Run()
	made := map[int]int{} // of each move, its accesses
	for _, a := range r.Trace {
		made[a.Move]++
	}
	for _, call := range r.Calls {
		end := call.End
		if end < 0 {
			end = call.Begin + most
		}
		for move := call.Begin + 1; whole && move <= end; move++ {
			if made[move] != 1 {
				t.Fatalf("over %x: %+v: move %d makes %d accesses", words, call, move, made[move])
			}
		}
	}
}

// wordsOfNoSlot are no plain links to one of three slots.
var wordsOfNoSlot = []uint64{0, link(3), 1 << 31, 1 << 32, 1<<32 + 1, math.MaxUint64}

// A Head that names no slot has nothing behind it: the queue is empty.
func TestHeadOfNoSlot(t *testing.T) {
	for _, none := range wordsOfNoSlot {
		y := yardOf(t, configOf(1, 1, 1, 0, 3))
		y.calls(t, register(0), enqueue(0, 1), poked(0, headAddr, none))
		from := y.accesses()
		got := y.call(t, dequeue(0))
		if got.Answer != empty || got.Point != got.Begin+4 {
			t.Errorf("%x: %+v", none, got)
		}
		y.wantSeen(t, from, load(0, headAddr, none), store(0, 8, none), load(0, headAddr, none), load(0, tailAddr, link(1)),
			store(0, 8, 0), store(0, 9, 0))
	}
}

// A Tail that names no slot has no link: the call asks for another one till there is one.
func TestTailOfNoSlot(t *testing.T) {
	for _, none := range wordsOfNoSlot {
		y := pair(t)
		if none == link(3) {
			none = link(6)
		}
		y.call(t, poked(0, tailAddr, none))
		y.make(t, enqueue(1, 5))
		y.steps(t, 1, 5)
		from := y.accesses()
		y.steps(t, 1, 5)
		hazard := y.hazardAt(1, 0)
		y.wantSeen(t, from, load(1, tailAddr, none), store(1, hazard, none), load(1, tailAddr, none),
			store(1, hazard, none), load(1, tailAddr, none))
		y.call(t, poked(0, tailAddr, link(0)))
		y.finish(t, 1)
		y.wantAnswer(t, 1, done)
		y.wantQueue(t, 5)
	}
}

// A link that names no slot has nothing behind it: the queue ends there.
func TestLinkOfNoSlot(t *testing.T) {
	for _, none := range wordsOfNoSlot {
		y := yardOf(t, configOf(1, 1, 1, 0, 3))
		y.calls(t, register(0), poked(0, y.linkAt(0), none), dequeue(0))
		y.wantAnswer(t, 0, empty)
		y.call(t, enqueue(0, 1))
		y.wantAnswer(t, 0, done)
		y.wantQueue(t, 1)
		y.call(t, dequeue(0))
		y.wantAnswer(t, 0, value(1))
	}
}

// P5: over an arena of which no slot is used, and the words that go with it, there is no dummy: what
// is asked of the queue panics nowhere.
func TestWithoutADummy(t *testing.T) {
	c := configOf(2, 2, 1, 1, 3)
	a, _ := arena.New(c, 0)
	words, _ := word.First(c, 0)
	h := hazard.New(a)
	m, _ := machine.New(2, words, machine.Join(h.Kit(), queue.Kit(h)))
	for _, mv := range []api.Move{register(0), register(1), dequeue(1), enqueue(0, 1), dequeue(1)} {
		m.Move(mv)
		for range 60 {
			m.Move(step(mv.Thread))
		}
	}
	if got, _ := m.Call(1); got.Answer != empty {
		t.Errorf("%+v", got)
	}
}

// P5: a machine may have more threads, or fewer, than the configuration; those that the
// configuration doesn't have hold no record, and begin nothing.
func TestOnOtherMachines(t *testing.T) {
	c := configOf(2, 2, 1, 1, 3)
	for _, threads := range []int{1, 2, 16} {
		h := hazard.New(arenaOf(t, c))
		words, _ := word.First(c, 1)
		m, _ := machine.New(threads, words, machine.Join(h.Kit(), queue.Kit(h)))
		for thread := 15; thread >= 0; thread-- {
			for _, mv := range []api.Move{register(thread), enqueue(thread, 1), dequeue(thread)} {
				if began := m.Move(mv); began != (thread < threads && thread < c.Threads) {
					t.Errorf("%d threads: %+v: %v", threads, mv, began)
				}
				for range 60 {
					m.Move(step(thread))
				}
			}
		}
	}
}

// P6: a kit is a new map.
func TestKitsApart(t *testing.T) {
	h := hazard.New(arenaOf(t, example()))
	kit := queue.Kit(h)
	delete(kit, api.OpEnqueue)
	kit[api.OpDequeue] = nil
	if again := queue.Kit(h); len(again) != 2 || again[api.OpDequeue] == nil {
		t.Error("a kit is shared")
	}
	none := queue.Kit(nil)
	if none != nil {
		none[api.OpEnqueue] = func(int, api.Move) machine.Task { return nil }
	}
	if len(queue.Kit(nil)) != 0 {
		t.Error("an empty kit is shared")
	}
}

// P6: what is handed in is left as it is, its spare room too; runs share nothing.
func TestRunsApart(t *testing.T) {
	script := slices.Concat(with(register(0), 2), with(enqueue(0, 5), 12), with(dequeue(0), 14))
	room := append(make([]api.Move, 0, 50), script...)
	copied := slices.Clone(room[:cap(room)])
	r := playOf(t, example(), room...)
	if !slices.Equal(room[:cap(room)], copied) {
		t.Error("the moves are changed")
	}
	first := playOf(t, example(), room...)
	for i := range r.Words {
		r.Words[i] = 99
	}
	clear(r.Calls[:cap(r.Calls)])
	clear(r.Trace[:cap(r.Trace)])
	clear(r.Shifts[:cap(r.Shifts)])
	clear(room)
	wantRun(t, playOf(t, example(), script...), first)
}

// P6: two queues over two arenas share nothing.
func TestQueuesApart(t *testing.T) {
	one, other := pair(t), pair(t)
	one.calls(t, enqueue(0, 1), enqueue(1, 2))
	other.wantQueue(t)
	other.wantState(t, 1, api.StateFree, -1)
	if got := other.call(t, dequeue(0)); got.Answer != empty {
		t.Errorf("%+v", got)
	}
	one.wantQueue(t, 1, 2)
}
