package machine_test

import (
	"slices"
	"testing"

	"reclaim/api"
	"reclaim/machine"
)

// P3.5: of a call that has not ended what its task has told stays unsaid, but for its point.
func TestCallOnItsWay(t *testing.T) {
	steps := 0
	task := &plan{step: func(d *machine.Desk) bool {
		steps++
		d.Load(0)
		if steps == 2 {
			d.Point(1)
			d.Answer(value(6))
		}
		return steps == 3
	}}
	m := machineOf(t, 1, []uint64{0}, kitOf(task))
	call := api.Call{Op: opTest, Arg: 3, Data: 4, Begin: 0, End: -1, Point: -1}
	told := call
	told.Point = 1
	ended := told
	ended.End, ended.Answer = 3, value(6)
	makeMoves(t, m, api.Move{Op: opTest, Arg: 3, Data: 4})
	for i, want := range []api.Call{call, call, told, ended} {
		if i > 0 {
			makeMoves(t, m, step(0))
		}
		if c, known := m.Call(0); !known || c != want || !slices.Equal(m.Run().Calls, []api.Call{want}) {
			t.Errorf("behind step %d: %+v, %+v, not %+v", i, c, m.Run().Calls, want)
		}
	}
}

// P3.5: calls stand in the order in which they began, accesses and shifts in theirs.
func TestRunOrder(t *testing.T) {
	kit := machine.Kit{opTest: func(thread int, mv api.Move) machine.Task {
		left := mv.Arg
		return &plan{step: func(d *machine.Desk) bool {
			d.Store(0, uint64(10*thread+left))
			d.Shift(left, api.StateFree, api.StateOwned)
			left--
			return left == 0
		}}
	}}
	m := machineOf(t, 3, []uint64{0}, kit)
	begin := func(thread, steps int) api.Move { return api.Move{Thread: thread, Op: opTest, Arg: steps} }
	makeMoves(t, m, begin(2, 2), begin(0, 1), step(2), step(0), begin(0, 1), step(0), step(2))
	done := api.Answer{Kind: api.AnswerDone}
	store := func(move, thread int, w uint64) api.Access {
		return api.Access{Move: move, Thread: thread, Kind: api.AccessStore, New: w}
	}
	shift := func(move, thread, slot int) api.Shift {
		return api.Shift{Move: move, Thread: thread, Slot: slot, From: api.StateFree, To: api.StateOwned}
	}
	wantRun(t, m.Run(), api.Run{
		Calls: []api.Call{
			{Thread: 2, Op: opTest, Arg: 2, Begin: 0, End: 6, Point: -1, Answer: done},
			{Thread: 0, Op: opTest, Arg: 1, Begin: 1, End: 3, Point: -1, Answer: done},
			{Thread: 0, Op: opTest, Arg: 1, Begin: 4, End: 5, Point: -1, Answer: done},
		},
		Trace:  []api.Access{store(2, 2, 22), store(3, 0, 1), store(5, 0, 1), store(6, 2, 21)},
		Shifts: []api.Shift{shift(2, 2, 2), shift(3, 0, 1), shift(5, 0, 1), shift(6, 2, 1)},
		Words:  []uint64{21},
	})
}

// spoil writes into a run and puts more behind each of its lists.
func spoil(r api.Run) {
	for i := range r.Calls {
		r.Calls[i] = api.Call{Thread: 77}
	}
	for i := range r.Trace {
		r.Trace[i] = api.Access{Thread: 77}
	}
	for i := range r.Shifts {
		r.Shifts[i] = api.Shift{Thread: 77}
	}
	for i := range r.Words {
		r.Words[i] = 77
	}
	_ = append(r.Calls, slices.Repeat([]api.Call{{Thread: 78}}, cap(r.Calls)-len(r.Calls))...)
	_ = append(r.Trace, slices.Repeat([]api.Access{{Thread: 78}}, cap(r.Trace)-len(r.Trace))...)
	_ = append(r.Shifts, slices.Repeat([]api.Shift{{Thread: 78}}, cap(r.Shifts)-len(r.Shifts))...)
	_ = append(r.Words, slices.Repeat([]uint64{78}, cap(r.Words)-len(r.Words))...)
}

// shifting bumps a word by one store, with a shift: all lists of a run grow by it.
func shifting() machine.Kit {
	return machine.Kit{opTest: func(int, api.Move) machine.Task {
		return &plan{step: func(d *machine.Desk) bool {
			d.Store(0, uint64(d.Now()))
			d.Shift(d.Now(), api.StateFree, api.StateOwned)
			return true
		}}
	}}
}

// P6: runs that are written into and put behind, while the machine goes on, are nobody else's.
func TestRunsAreNewMemory(t *testing.T) {
	m := machineOf(t, 1, []uint64{1, 2, 3}, shifting())
	twin := machineOf(t, 1, []uint64{1, 2, 3}, shifting())
	for range 40 {
		first, second := m.Run(), m.Run()
		kept := copyRun(second)
		spoil(first)
		wantRun(t, second, kept)
		for _, each := range []*machine.Machine{m, twin} {
			makeMoves(t, each, api.Move{Op: opTest}, step(0))
		}
		wantRun(t, second, kept)
		spoil(second)
		wantRun(t, m.Run(), twin.Run())
	}
}

// P6: the words and the moves that are handed in are neither changed nor kept, spare room too.
func TestArgumentsStay(t *testing.T) {
	room := []uint64{5, 0, 55, 56}
	words := room[:2]
	m := machineOf(t, 2, words, machine.Own(2))
	makeMoves(t, m, bumpAt(0, 0), step(0), step(0))
	words[1] = 9
	if !slices.Equal(m.Run().Words, []uint64{6, 0}) || !slices.Equal(room, []uint64{5, 9, 55, 56}) {
		t.Errorf("words %v, handed in %v", m.Run().Words, room)
	}
	moves := append(make([]api.Move, 0, 8), bumpAt(0, 0), step(0), step(0))
	kept := slices.Clone(moves[:cap(moves)])
	r := playOf(t, 2, words, moves)
	spoil(r)
	if !slices.Equal(moves[:cap(moves)], kept) || !slices.Equal(room, []uint64{5, 9, 55, 56}) {
		t.Errorf("moves %v, words %v", moves, room)
	}
}

// P6: Run and Call look and change nothing.
func TestLookingChangesNothing(t *testing.T) {
	m := machineOf(t, 2, []uint64{5, 0}, machine.Own(2))
	moves := duel()
	for _, mv := range moves {
		m.Run()
		m.Call(0)
		m.Busy(1)
		m.Moves()
		m.Move(mv)
	}
	wantRun(t, m.Run(), playOf(t, 2, []uint64{5, 0}, moves))
}
