package arena_test

import (
	"math"
	"slices"
	"testing"

	"reclaim/api"
	"reclaim/arena"
	"reclaim/machine"
	"reclaim/word"
)

// absentArenas are those that New did not make.
func absentArenas() map[string]*arena.Arena {
	return map[string]*arena.Arena{"a nil arena": nil, "the zero arena": {}}
}

// ints are numbers of slots and threads, of which an absent arena has none.
var ints = []int{0, 1, -1, math.MinInt, math.MaxInt}

// The section 'Words' and P9: an arena that New did not make has no slots and no threads.
func TestAbsentArenas(t *testing.T) {
	for what, a := range absentArenas() {
		if c := a.Config(); c != (api.Config{}) {
			t.Errorf("%s: Config() = %+v", what, c)
		}
		for _, n := range ints {
			if s, h, e := a.State(n); s != 0 || h != 0 || e != api.ErrRange {
				t.Errorf("%s: State(%d) = %d, %d, %d", what, n, s, h, e)
			}
			if got := a.Cached(n); len(got) != 0 {
				t.Errorf("%s: Cached(%d) = %v", what, n, got)
			}
			if got := a.Count(api.State(n)); got != 0 {
				t.Errorf("%s: Count(%d) = %d", what, n, got)
			}
		}
		if kit := a.Kit(); len(kit) != 0 {
			t.Errorf("%s: a kit of %d calls", what, len(kit))
		}
	}
}

// deskOf hands out a desk of thread 1, with a memory in which Free names a slot, and answers what
// was recorded.
func deskOf(t *testing.T, do func(d *machine.Desk)) api.Run {
	t.Helper()
	words, _ := word.First(example(1), 0)
	task := &deed{do}
	m, e := machine.New(2, words, machine.Kit{opPart: func(int, api.Move) machine.Task { return task }})
	if e != api.OK || !m.Move(api.Move{Thread: 1, Op: opPart}) || !m.Move(step(1)) {
		t.Fatal("no desk")
	}
	return m.Run()
}

// wantNothing asks that at that desk nothing was done.
func wantNothing(t *testing.T, what string, do func(d *machine.Desk)) {
	t.Helper()
	words, _ := word.First(example(1), 0)
	r := deskOf(t, do)
	if len(r.Trace) != 0 || len(r.Shifts) != 0 || !slices.Equal(r.Words, words) {
		t.Errorf("%s: something was done: %+v", what, r)
	}
	do(nil)
	do(&machine.Desk{})
}

// The section 'Words': Shift of an arena that New did not make does nothing, and its parts have
// ended when they begin.
func TestPartsOfAbsentArenas(t *testing.T) {
	for what, a := range absentArenas() {
		wantNothing(t, what, func(d *machine.Desk) {
			for _, n := range ints {
				a.Shift(d, n, api.StateOwned)
				part := a.Take(n)
				if part == nil || part.Slot() != -1 {
					t.Errorf("%s: Take(%d) = %v", what, n, part)
				}
				wantEnded(t, what, d, part)
				if part.Slot() != -1 {
					t.Errorf("%s: Slot() = %d", what, part.Slot())
				}
				giving, flushing := a.Give(n, 0), a.Flush(n)
				if giving == nil || flushing == nil || a.Give(0, n) == nil {
					t.Errorf("%s: nil parts", what)
				}
				wantEnded(t, what, d, giving)
				wantEnded(t, what, d, a.Give(0, n))
				wantEnded(t, what, d, flushing)
			}
		})
	}
}

func wantEnded(t *testing.T, what string, d *machine.Desk, part machine.Task) {
	t.Helper()
	for range 2 {
		if !part.Ready(d) || !part.Step(d) || !part.Step(d) {
			t.Errorf("%s: a part goes on", what)
		}
	}
}

// The section 'Words': of a nil part Ready and Step answer true, Slot -1; so do parts that no arena
// made.
func TestAbsentParts(t *testing.T) {
	var (
		taking   *arena.Taking
		giving   *arena.Giving
		flushing *arena.Flushing
	)
	wantNothing(t, "absent parts", func(d *machine.Desk) {
		wantEnded(t, "a nil take", d, taking)
		wantEnded(t, "a nil give", d, giving)
		wantEnded(t, "a nil flush", d, flushing)
		wantEnded(t, "the zero take", d, &arena.Taking{})
		wantEnded(t, "the zero give", d, &arena.Giving{})
		wantEnded(t, "the zero flush", d, &arena.Flushing{})
	})
	if taking.Slot() != -1 || new(arena.Taking).Slot() != -1 {
		t.Errorf("Slot() = %d, %d", taking.Slot(), new(arena.Taking).Slot())
	}
}

// again calls a part that has ended, in Ready and in Step of a call.
func (y *yard) again(t *testing.T, part machine.Task) {
	t.Helper()
	before := y.m.Run()
	caches := [][]int{y.Cached(0), y.Cached(1)}
	y.at(t, 1, func(d *machine.Desk) { wantEnded(t, "a part that has ended", d, part) })
	y.begin(t, 0, stepsOnly{part})
	y.steps(t, 0, 1)
	y.wantOnlyCalls(t, before)
	y.wantCache(t, 0, caches[0]...)
	y.wantCache(t, 1, caches[1]...)
}

// The section 'Words': a part that has ended does nothing more, also where it could.
func TestPartsThatHaveEnded(t *testing.T) {
	y := yardOf(t, configOf(2, 4, 1), 0)
	run := func(part machine.Task) {
		y.begin(t, 0, part)
		y.finish(t, 0)
	}
	taken, empty := y.Take(0), y.Flush(0)
	run(taken)
	run(empty)
	y.again(t, taken)
	cached := y.Give(0, 0)
	run(cached)
	y.again(t, cached)
	y.again(t, taken)
	y.again(t, empty)

	fromCache := y.Take(0)
	run(fromCache)
	y.again(t, fromCache)
	y.again(t, cached)
	y.takeAll(t, 0, 3)
	none := y.Take(0)
	run(none)
	y.call(t, give(0, 1))
	freed := y.Give(0, 2)
	run(freed)
	y.again(t, none)
	y.again(t, freed)
	flushed := y.Flush(0)
	run(flushed)
	y.again(t, flushed)
	y.call(t, give(0, 3))
	y.again(t, flushed)
	y.again(t, freed)
	for part, want := range map[*arena.Taking]int{taken: 0, fromCache: 0, none: -1} {
		if part.Slot() != want {
			t.Errorf("Slot() = %d, not %d", part.Slot(), want)
		}
	}
}

// P5: at a desk that no machine handed out nothing panics; the parts see a memory of zeros.
func TestPartsAtNobodysDesk(t *testing.T) {
	for _, d := range []*machine.Desk{nil, {}} {
		y := yardOf(t, configOf(2, 3, 1), 0)
		part := y.Take(1)
		if part.Ready(d) || !part.Step(d) || part.Slot() != -1 {
			t.Errorf("a take: Slot() = %d", part.Slot())
		}
		y.takeAll(t, 0, 2)
		if g := y.Give(0, 0); !g.Ready(d) {
			t.Error("a give with room goes on")
		}
		giving, flushing := y.Give(0, 1), y.Flush(0)
		if giving.Ready(d) || flushing.Ready(d) {
			t.Error("a part ends without an access")
		}
		for range 10 {
			if giving.Step(d) || flushing.Step(d) {
				t.Error("a part ends without a swap")
			}
		}
		y.wantCache(t, 0, 0)
		y.wantState(t, 1, api.StateOwned, 0)
	}
}

// P5: over words that don't go with the arena nothing panics, and no slot is taken that there isn't.
func TestPartsOverOtherWords(t *testing.T) {
	c := configOf(2, 3, 1)
	size, _ := word.Size(c)
	odd := []uint64{0, 1, 2, 3, 4, 5, 9, 1 << 31, 1<<32 - 1, 1 << 32, 1<<32 + 2, 1 << 33, math.MaxUint64, math.MaxUint64 - 1<<32 + 1}
	for _, free := range odd {
		for _, spare := range odd {
			for _, count := range []int{size, spareOf(c, 1), 1, 0} {
				words := slices.Repeat([]uint64{spare}, count)
				if count > 0 {
					words[0] = free
				}
				a := arenaOf(t, c, 0)
				m, _ := machine.New(2, words, a.Kit())
				for _, mv := range []api.Move{take(0), take(1), give(0, 0), give(1, 1), flush(0), give(0, 1), take(0)} {
					m.Move(mv)
					for range 8 {
						m.Move(step(mv.Thread))
					}
				}
				for _, call := range m.Run().Calls {
					if call.Answer.Kind == api.AnswerValue && (call.Answer.Value < 0 || call.Answer.Value > 2) {
						t.Fatalf("Free %x, Spare %x: %+v", free, spare, call)
					}
				}
			}
		}
	}
}

// P6: a list that Cached has answered may be written into and put behind, and stays as it is.
func TestListsApart(t *testing.T) {
	y := yardOf(t, configOf(2, 8, 4), 0)
	y.takeAll(t, 0, 6)
	want := []int{}
	for slot := range 4 {
		y.call(t, give(0, slot))
		want = append(want, slot)
		kept, other := y.Cached(0), y.Cached(0)
		y.wantCache(t, 0, want...)
		spoiled := append(kept, -7)
		for i := range spoiled {
			spoiled[i] = -9
		}
		spoiled = kept[:cap(kept)]
		for i := range spoiled {
			spoiled[i] = -8
		}
		y.wantCache(t, 0, want...)
		if !slices.Equal(other, want) {
			t.Errorf("another answer is %v", other)
		}
	}
	kept := y.Cached(0)
	room := y.Cached(0)
	y.call(t, take(0))
	y.call(t, take(0))
	room = append(room[:2], -5, -6)
	y.call(t, give(0, 5))
	y.call(t, give(0, 4))
	y.wantCache(t, 0, 0, 1, 5, 4)
	y.call(t, flush(0))
	if !slices.Equal(kept, []int{0, 1, 2, 3}) || !slices.Equal(room, []int{0, 1, -5, -6}) {
		t.Errorf("answers from ahead are %v, %v", kept, room)
	}
}

// P6: a kit is a new map; what is handed in is left as it is; runs share nothing.
func TestKitsAndRunsApart(t *testing.T) {
	a := arenaOf(t, example(1), 0)
	delete(a.Kit(), api.OpTake)
	if len(a.Kit()) != 3 {
		t.Error("a kit is shared")
	}
	room := append(make([]api.Move, 0, 8), take(0), step(0), step(0), step(0), give(0, 0), step(0))
	copied := slices.Clone(room[:cap(room)])
	r := playOf(t, example(1), room...)
	if !slices.Equal(room[:cap(room)], copied) {
		t.Error("the moves are changed")
	}
	first := playOf(t, example(1), room...)
	for i := range r.Words {
		r.Words[i] = 99
	}
	r.Calls[0], r.Trace[0], r.Shifts[0] = api.Call{}, api.Access{}, api.Shift{}
	room[0] = api.Move{}
	wantRun(t, playOf(t, example(1), copied[:6]...), first)
}

// P6: two arenas of one configuration share nothing.
func TestArenasApart(t *testing.T) {
	one, other := yardOf(t, example(1), 0), yardOf(t, example(1), 0)
	one.takeAll(t, 0, 2)
	one.call(t, give(0, 0))
	other.wantState(t, 0, api.StateFree, -1)
	other.wantState(t, 1, api.StateFree, -1)
	other.wantCache(t, 0)
	other.wantFree(t, 0, 0, 1, 2)
}

// A word that is no head, and one that is no link, names no slot.
func TestWordsThatAreNone(t *testing.T) {
	c := configOf(1, 3, 0)
	for _, none := range []uint64{1 << 31, 5<<32 + 1<<31, math.MaxUint64} {
		words, _ := word.First(c, 0)
		words[0] = none
		if m := takeOver(t, c, words); m.Answer != full {
			t.Errorf("Free %x: %+v", none, m)
		}
		words[0], words[spareOf(c, 0)] = head(4, 0), none
		if m := takeOver(t, c, words); m.Answer != value(0) || m.free != head(5, -1) {
			t.Errorf("Spare %x: %+v", none, m)
		}
	}
}

// takenOver is a take's call, and the word Free behind it.
type takenOver struct {
	api.Call
	free uint64
}

// takeOver lets one take come to its end over words that may be any.
func takeOver(t *testing.T, c api.Config, words []uint64) takenOver {
	t.Helper()
	m, e := machine.New(c.Threads, words, arenaOf(t, c, 0).Kit())
	if e != api.OK {
		t.Fatalf("machine.New = %d", e)
	}
	for _, mv := range []api.Move{take(0), step(0), step(0), step(0)} {
		m.Move(mv)
	}
	call, _ := m.Call(0)
	return takenOver{call, m.Run().Words[0]}
}
