package list_test

import (
	"math"
	"slices"
	"testing"

	"reclaim/api"
	"reclaim/arena"
	"reclaim/hazard"
	"reclaim/list"
	"reclaim/machine"
	"reclaim/word"
)

// overNothing are hazards that are not there, and such as New didn't make or made over no arena.
func overNothing() map[string]*hazard.Hazards {
	return map[string]*hazard.Hazards{
		"nil": nil, "zero": {}, "over a nil arena": hazard.New(nil), "over the zero arena": hazard.New(&arena.Arena{}),
	}
}

// P8.8: over these an empty kit.
func TestKitOverNothing(t *testing.T) {
	for what, h := range overNothing() {
		kit := list.Kit(h)
		if len(kit) != 0 {
			t.Errorf("%s: a kit of %d calls", what, len(kit))
		}
		m, e := machine.New(1, []uint64{1, 2, 3}, kit)
		if e != api.OK || m.Move(insert(0, 1)) || m.Move(remove(0, 1)) || m.Move(contains(0, 1)) {
			t.Errorf("%s: a call is begun", what)
		}
	}
}

// wantNoPart asks that a part has ended when it began.
func wantNoPart(t *testing.T, what string, part machine.Task) {
	t.Helper()
	for range 2 {
		if !part.Ready(nil) || !part.Step(nil) || !part.Ready(&machine.Desk{}) || !part.Step(&machine.Desk{}) {
			t.Errorf("%s: the part has not ended", what)
		}
	}
	if f, ok := part.(*list.Finding); ok {
		wantFound(t, f, nothing)
	}
}

// P8.2 and P9: nil parts and zero parts have ended.
func TestNilParts(t *testing.T) {
	var f *list.Finding
	wantNoPart(t, "nil Finding", f)
	wantNoPart(t, "zero Finding", &list.Finding{})
	var l *list.Leaving
	wantNoPart(t, "nil Leaving", l)
	wantNoPart(t, "zero Leaving", &list.Leaving{})
}

// The section 'Promises: the parts': over no hazards the parts end when they begin.
func TestPartsOverNothing(t *testing.T) {
	for what, h := range overNothing() {
		for _, n := range []int{0, 5, -1, math.MaxInt, math.MinInt} {
			f := list.Find(h, n, n, n)
			wantFound(t, f, nothing)
			wantNoPart(t, what, f)
			wantNoPart(t, what, list.Leave(h, n))
			wantNoPart(t, what, list.Inserting(h, n, n, n, n))
			// Step alone tells the same.
			if !list.Find(h, n, n, n).Step(nil) || !list.Leave(h, n).Step(nil) || !list.Inserting(h, n, n, n, n).Step(nil) {
				t.Errorf("%s: a step is made", what)
			}
		}
	}
}

// wantNothingDone begins a part as a call of thread 0, and asks that its first step ends it, makes no
// access, and tells that answer and no point.
func (y *yard) wantNothingDone(t *testing.T, part machine.Task, answer api.Answer) {
	t.Helper()
	before := y.m.Run()
	y.begin(t, 0, part)
	if steps := y.finish(t, 0); steps != 1 {
		t.Errorf("%d steps", steps)
	}
	y.wantOnlyCalls(t, before)
	if got := y.last(0); got.Answer != answer || got.Point != -1 {
		t.Errorf("%+v, not %+v", got, answer)
	}
	if f, ok := part.(*list.Finding); ok {
		wantFound(t, f, nothing)
	}
}

// Likewise of a thread that holds no record, or that there isn't; Inserting answers No.
func TestPartsWithoutARecord(t *testing.T) {
	y := yardOf(t, configOf(2, 2, 1, 0, 3))
	y.calls(t, register(1), insert(1, 5))
	for _, thread := range []int{0, 2, -1, math.MaxInt, math.MinInt} {
		y.wantNothingDone(t, list.Find(y.Hazards, thread, rootAddr, 5), done)
		y.wantNothingDone(t, list.Leave(y.Hazards, thread), done)
		y.wantNothingDone(t, list.Inserting(y.Hazards, thread, rootAddr, 6, 7), no)
	}
	y.wantKeys(t, 5)
}

// Likewise of an address that there isn't.
func TestPartsOfNoAddress(t *testing.T) {
	y := listOf(t, 5)
	size, _ := word.Size(y.c)
	for _, root := range []int{-1, size, size + 1, math.MaxInt, math.MinInt} {
		y.wantNothingDone(t, list.Find(y.Hazards, 0, root, 5), done)
		y.wantNothingDone(t, list.Inserting(y.Hazards, 0, root, 6, 7), no)
	}
	y.wantKeys(t, 5)
	y.wantState(t, 1, api.StateFree, -1)
}

// Whether a thread holds a record is asked when the part begins, not when it is made; what has ended by
// that does not begin again.
func TestPartsBegin(t *testing.T) {
	y := yardOf(t, configOf(2, 2, 1, 0, 3))
	f, l, in := list.Find(y.Hazards, 0, rootAddr, 5), list.Leave(y.Hazards, 0), list.Inserting(y.Hazards, 0, rootAddr, 5, 0)
	over := []machine.Task{list.Find(y.Hazards, 0, rootAddr, 5), list.Leave(y.Hazards, 0), list.Inserting(y.Hazards, 0, rootAddr, 5, 0)}
	for _, part := range over {
		if !part.Ready(nil) {
			t.Error("a part begins")
		}
	}
	y.call(t, register(0))
	for i, part := range over {
		y.wantNothingDone(t, part, []api.Answer{done, done, done}[i]) // a call that has ended tells nothing more
	}
	for _, part := range []machine.Task{in, f, l} {
		if part.Ready(nil) {
			t.Error("a part has ended when it begins")
		}
		y.begin(t, 0, part)
		y.finish(t, 0)
	}
	if got := foundBy(f); !got.there || got.cur != 0 {
		t.Errorf("%+v", got)
	}
	y.wantKeys(t, 5)
}

// made makes calls of thread 0 over a list of the key 5, as the kit and the face make them.
func (y *yard) made() []machine.Task {
	tasks := []machine.Task{list.Inserting(y.Hazards, 0, rootAddr, 6, 7)}
	for _, mv := range []api.Move{insert(0, 5), insert(0, 4), remove(0, 5), remove(0, 6), contains(0, 5)} {
		tasks = append(tasks, list.Kit(y.Hazards)[mv.Op](0, mv))
	}
	return tasks
}

// P5: a call whose thread has let its record go ahead of the first step finds nothing there, whether or
// not it is asked to be ready.
func TestCallsThatLoseTheirRecord(t *testing.T) {
	y := listOf(t, 5)
	ready, step := y.made(), y.made()
	y.call(t, unregister(0))
	for _, task := range ready {
		y.wantNothingDone(t, task, no)
	}
	for _, task := range step {
		y.wantNothingDone(t, stepped{task}, no)
	}
	y.wantKeys(t, 5)
}

// stepped is a task whose Ready nobody calls.
type stepped struct{ machine.Task }

func (s stepped) Ready(*machine.Desk) bool { return false }

// P5: one that has let it go on its way comes to an end, too.
func TestCallsThatLoseTheirRecordOnTheWay(t *testing.T) {
	for number := range listOf(t, 5).made() {
		for steps := 1; steps <= 10; steps++ {
			y := listOf(t, 5)
			y.begin(t, 1, y.made()[number])
			y.steps(t, 1, steps)
			y.call(t, unregister(0))
			y.finish(t, 1)
		}
	}
	// A call that comes to leave when there is nothing to be cleared ends there.
	y := listOf(t, 5)
	y.begin(t, 1, list.Kit(y.Hazards)[api.OpContains](0, contains(0, 5)))
	y.steps(t, 1, 7)
	y.call(t, unregister(0))
	if steps := y.finish(t, 1); steps != 1 {
		t.Errorf("%d steps more", steps)
	}
	y.wantAnswer(t, 1, yes)
}

// P5: at a desk that no machine handed out nothing panics, and no step makes an access.
func TestAtNobodysDesk(t *testing.T) {
	for _, d := range []*machine.Desk{nil, {}} {
		y := yardOf(t, configOf(2, 2, 1, 1, 4))
		y.calls(t, register(0), register(1), insert(0, 1), insert(0, 2), remove(0, 1))
		before := y.m.Run()
		tasks := []machine.Task{}
		for thread := range 2 {
			for op, maker := range list.Kit(y.Hazards) {
				tasks = append(tasks, maker(thread, api.Move{Op: op, Arg: 1}), maker(thread, api.Move{Op: op, Arg: 2}))
			}
			tasks = append(tasks, list.Find(y.Hazards, thread, rootAddr, 2), list.Leave(y.Hazards, thread))
		}
		for _, task := range tasks {
			task.Ready(d)
			for range 60 {
				task.Step(d)
			}
			task.Ready(d)
		}
		wantRun(t, y.m.Run(), before)
	}
}

// P5: calls that have ended do nothing more.
func TestCallsThatHaveEnded(t *testing.T) {
	y := yardOf(t, configOf(1, 1, 1, 1, 2))
	y.call(t, register(0))
	kit := list.Kit(y.Hazards)
	for _, mv := range []api.Move{
		remove(0, 1), contains(0, 1), insert(0, 1), insert(0, 1), contains(0, 1), insert(0, 2), insert(0, 3), remove(0, 1), remove(0, 2), insert(0, 4),
	} {
		task := kit[mv.Op](0, mv)
		y.begin(t, 0, task)
		y.finish(t, 0)
		before := y.m.Run()
		y.begin(t, 0, task)
		if steps := y.finish(t, 0); steps != 1 {
			t.Errorf("%+v makes %d steps more", mv, steps)
		}
		y.wantOnlyCalls(t, before)
	}
}

// oddWords are words of which most are none of their kind.
var oddWords = []uint64{0, 1, 2, 3, 4, 9, 1 << 31, 1<<32 - 1, 1 << 32, 1<<32 + 1, 1<<32 + 2, 1 << 33, math.MaxUint64}

// P5: over words that don't go with the hazards nothing panics; where all words are there, each step
// makes its access.
func TestOverOtherWords(t *testing.T) {
	c := configOf(2, 2, 1, 1, 3)
	size, _ := word.Size(c)
	for _, root := range oddWords {
		for _, others := range oddWords {
			for _, count := range []int{size, 20, 13, 8, 4, 1, 0} {
				for _, at := range []int{freeAddr, rootAddr, addrOf(c, api.RegionLink, 0, 0), addrOf(c, api.RegionLink, 1, 0)} { // which word is odd beside the others
					words := slices.Repeat([]uint64{others}, count)
					if at < count {
						words[at] = root
					}
					for i := 7; i < count && i < 9; i++ {
						words[i] = 0
					}
					overWords(t, c, words, count == size)
				}
			}
		}
	}
}

// overWords makes calls over words, one behind the other, each for as many steps as it may go on.
func overWords(t *testing.T, c api.Config, words []uint64, whole bool) {
	t.Helper()
	const most = 40
	h := hazard.New(arenaOf(t, c))
	m, _ := machine.New(2, words, machine.Join(h.Kit(), list.Kit(h)))
	for _, mv := range []api.Move{register(0), contains(0, 3), insert(0, 5), register(1), remove(1, 5), insert(1, -6), remove(1, 1),
		contains(0, 1), remove(0, 2), scan(1), unregister(1), unregister(0)} {
		m.Move(mv)
		for range most {
			m.Move(step(mv.Thread))
		}
	}
	r := m.Run()
	made := map[int]int{} // of each move, its accesses
	for _, a := range r.Trace {
		made[a.Move]++
	}
	for _, call := range r.Calls {
		end := call.End
		if end < 0 {
			end = call.Begin + most
		}
		for move := call.Begin + 1; whole && move <= end; move++ {
			if made[move] != 1 {
				t.Fatalf("over %x: %+v: move %d makes %d accesses", words, call, move, made[move])
			}
		}
	}
}

// wordsOfNoSlot are no links to one of three slots.
var wordsOfNoSlot = []uint64{0, link(3), 1 << 31, 1 << 33, 1<<33 + 1, math.MaxUint64}

// A root that names no slot has nothing behind it: the list is empty.
func TestRootOfNoSlot(t *testing.T) {
	for _, none := range wordsOfNoSlot {
		y := yardOf(t, configOf(1, 1, 1, 0, 3))
		y.calls(t, register(0), poked(0, rootAddr, none))
		from := y.accesses()
		got := y.call(t, contains(0, 5))
		if got.Answer != no || got.Point != got.Begin+1 {
			t.Errorf("%x: %+v", none, got)
		}
		y.wantSeen(t, from, load(0, rootAddr, none), store(0, 8, 0), store(0, 9, 0), store(0, 10, 0))
		y.calls(t, insert(0, 5), contains(0, 5))
		y.wantAnswer(t, 0, yes)
		if w := y.word(y.linkAt(0)); w != none {
			t.Errorf("%x is put behind it", w)
		}
	}
}

// A root with a mark names its slot all the same.
func TestRootWithAMark(t *testing.T) {
	y := listOf(t, 5)
	y.call(t, poked(0, rootAddr, marked(0)))
	f := y.find(t, 5)
	from := y.accesses()
	y.finish(t, 1)
	k := track{y, 1}
	look := k.look(rootAddr, 0, 0, 5)
	look[4].Saw = marked(0)
	y.wantSeen(t, from, slices.Concat(k.first(marked(0)), look)...)
	wantFound(t, f, found{true, 0, y.begun(1) + 6, rootAddr, marked(0), 0})
}

// A link that names no slot has nothing behind it: the list ends there.
func TestLinkOfNoSlot(t *testing.T) {
	for _, none := range wordsOfNoSlot {
		y := yardOf(t, configOf(1, 1, 1, 0, 3))
		y.calls(t, register(0), insert(0, 5), poked(0, y.linkAt(0), none), contains(0, 7))
		y.wantAnswer(t, 0, no)
		y.calls(t, insert(0, 6), contains(0, 6))
		y.wantAnswer(t, 0, yes)
		y.calls(t, remove(0, 6), remove(0, 5), contains(0, 5))
		y.wantAnswer(t, 0, no)
	}
}

// P5: a machine may have more threads, or fewer, than the configuration; those that the configuration
// doesn't have hold no record, and begin nothing.
func TestOnOtherMachines(t *testing.T) {
	c := configOf(2, 2, 1, 1, 3)
	for _, threads := range []int{1, 2, 16} {
		h := hazard.New(arenaOf(t, c))
		words, _ := word.First(c, 0)
		m, _ := machine.New(threads, words, machine.Join(h.Kit(), list.Kit(h)))
		for thread := 15; thread >= 0; thread-- {
			for _, mv := range []api.Move{register(thread), insert(thread, 1), contains(thread, 1), remove(thread, 1)} {
				if began := m.Move(mv); began != (thread < threads && thread < c.Threads) {
					t.Errorf("%d threads: %+v: %v", threads, mv, began)
				}
				for range 60 {
					m.Move(step(thread))
				}
			}
		}
	}
}

// P6: a kit is a new map.
func TestKitsApart(t *testing.T) {
	h := hazard.New(arenaOf(t, example()))
	kit := list.Kit(h)
	delete(kit, api.OpInsert)
	kit[api.OpDelete] = nil
	if again := list.Kit(h); len(again) != len(ops) || again[api.OpDelete] == nil {
		t.Error("a kit is shared")
	}
	none := list.Kit(nil)
	if none != nil {
		none[api.OpInsert] = func(int, api.Move) machine.Task { return nil }
	}
	if len(list.Kit(nil)) != 0 {
		t.Error("an empty kit is shared")
	}
}

// P6: what is handed in is left as it is, its spare room too; runs share nothing.
func TestRunsApart(t *testing.T) {
	script := slices.Concat(with(register(0), 2), with(insert(0, 5), 11), with(remove(0, 5), 14))
	room := append(make([]api.Move, 0, 50), script...)
	copied := slices.Clone(room[:cap(room)])
	r := playOf(t, example(), room...)
	if !slices.Equal(room[:cap(room)], copied) {
		t.Error("the moves are changed")
	}
	first := playOf(t, example(), room...)
	for i := range r.Words {
		r.Words[i] = 99
	}
	clear(r.Calls[:cap(r.Calls)])
	clear(r.Trace[:cap(r.Trace)])
	clear(r.Shifts[:cap(r.Shifts)])
	clear(room)
	wantRun(t, playOf(t, example(), script...), first)
}

// P6: two lists over two arenas share nothing.
func TestListsApart(t *testing.T) {
	one, other := listOf(t), listOf(t)
	one.calls(t, insert(0, 1), insert(1, 2))
	other.wantKeys(t)
	other.wantState(t, 0, api.StateFree, -1)
	if got := other.call(t, contains(0, 1)); got.Answer != no {
		t.Errorf("%+v", got)
	}
	one.wantKeys(t, 1, 2)
}
