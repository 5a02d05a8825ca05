package machine_test

import (
	"math"
	"slices"
	"testing"

	"reclaim/api"
	"reclaim/machine"
)

// P3.2 and P3: moves that do nothing count, and are told nowhere.
func TestMovesThatDoNothing(t *testing.T) {
	kit := machine.Join(machine.Own(1), machine.Kit{
		opTest:     func(int, api.Move) machine.Task { return nil },
		opTest + 1: nil,
		api.OpStep: func(int, api.Move) machine.Task { return &plan{} },
	})
	m := machineOf(t, 2, []uint64{3}, kit)
	makeMoves(t, m, bumpAt(1, 0), step(1))
	before := m.Run()
	idle := []api.Move{
		step(0), step(2), step(-1), step(math.MinInt), step(math.MaxInt),
		lookAt(2, 0), lookAt(-1, 0), lookAt(math.MaxInt, 0),
		{Op: opTest}, {Op: opTest + 1}, {Op: opTest + 2}, {Op: -1}, {Op: api.OpPush}, {Op: math.MinInt},
		lookAt(0, 1), lookAt(0, -1), bumpAt(0, 1),
		lookAt(1, 0), bumpAt(1, 0), {Thread: 1, Op: opTest}, {Thread: 1, Op: opTest + 2},
	}
	for i, mv := range idle {
		if m.Move(mv) {
			t.Errorf("%+v does something", mv)
		}
		if m.Moves() != 3+i || m.Busy(0) || !m.Busy(1) {
			t.Errorf("behind %+v: %d moves, busy %v, %v", mv, m.Moves(), m.Busy(0), m.Busy(1))
		}
	}
	wantRun(t, m.Run(), before)
	makeMoves(t, m, step(1))
	if c, _ := m.Call(1); c.End != 2+len(idle) || c.Point != 2+len(idle) || c.Answer != value(3) {
		t.Errorf("the call went on as %+v", c)
	}
}

// P3.2: the maker is given the thread and the move as it is, just at the moves that it may begin.
func TestMaker(t *testing.T) {
	var asked []api.Move
	var threads []int
	kit := machine.Kit{opTest: func(thread int, mv api.Move) machine.Task {
		threads, asked = append(threads, thread), append(asked, mv)
		if mv.Arg < 0 {
			return nil
		}
		return &plan{}
	}}
	m := machineOf(t, 3, nil, kit)
	first := api.Move{Thread: 2, Op: opTest, Arg: math.MaxInt, Data: math.MinInt}
	refused := api.Move{Thread: 1, Op: opTest, Arg: -1}
	makeMoves(t, m, first)
	if m.Move(first) || m.Move(refused) || m.Move(api.Move{Thread: 3, Op: opTest}) {
		t.Error("a move does something that may not")
	}
	if !slices.Equal(threads, []int{2, 1}) || !slices.Equal(asked, []api.Move{first, refused}) {
		t.Errorf("the maker was asked %v, %v", threads, asked)
	}
	want := api.Call{Thread: 2, Op: opTest, Arg: math.MaxInt, Data: math.MinInt, End: -1, Point: -1}
	if c, _ := m.Call(2); c != want {
		t.Errorf("%+v, not %+v", c, want)
	}
}

// P3.2 and P1: the move that begins a call asks nothing of its task; the first step asks Ready, and
// Step behind it; further ones Step alone.
func TestReadyAndStep(t *testing.T) {
	var did []string
	left := 3
	task := &plan{
		ready: func(*machine.Desk) bool { did = append(did, "ready"); return false },
		step: func(d *machine.Desk) bool {
			did = append(did, "step")
			left--
			return left == 0
		},
	}
	m := machineOf(t, 1, []uint64{0}, kitOf(task))
	makeMoves(t, m, api.Move{Op: opTest})
	if len(did) != 0 {
		t.Fatalf("the move that begins did %v", did)
	}
	for i, want := range [][]string{{"ready", "step"}, {"ready", "step", "step"}, {"ready", "step", "step", "step"}} {
		makeMoves(t, m, step(0))
		if !slices.Equal(did, want) || m.Busy(0) != (i < 2) {
			t.Fatalf("step %d: %v, busy %v", i, did, m.Busy(0))
		}
	}
	if c, _ := m.Call(0); c.Begin != 0 || c.End != 3 {
		t.Errorf("%+v", c)
	}
	did, left = nil, 1
	makeMoves(t, m, api.Move{Op: opTest}, step(0))
	if !slices.Equal(did, []string{"ready", "step"}) {
		t.Errorf("the next call's first step did %v", did)
	}
}

// P3.2 and P1: a call that needs no access ends in its first step, which makes none.
func TestReadyEnds(t *testing.T) {
	task := &plan{
		ready: func(d *machine.Desk) bool {
			d.Answer(value(8))
			d.Shift(1, api.StateOwned, api.StateCached)
			return true
		},
		step: func(d *machine.Desk) bool { t.Error("Step behind the end"); return true },
	}
	m := machineOf(t, 1, []uint64{0}, kitOf(task))
	makeMoves(t, m, api.Move{Op: opTest}, step(0))
	wantRun(t, m.Run(), api.Run{
		Calls:  []api.Call{{Op: opTest, End: 1, Point: -1, Answer: value(8)}},
		Shifts: []api.Shift{{Move: 1, Slot: 1, From: api.StateOwned, To: api.StateCached}},
		Words:  []uint64{0},
	})
	if m.Busy(0) || m.Move(step(0)) {
		t.Error("the thread is not idle behind its call")
	}
}

// P3.2: a machine takes MaxMoves moves, those that do nothing among them, and no more.
func TestMaxMoves(t *testing.T) {
	m := machineOf(t, 1, []uint64{0}, machine.Own(1))
	for range api.MaxMoves - 2 {
		m.Move(step(0))
	}
	makeMoves(t, m, bumpAt(0, 0))
	if m.Moves() != api.MaxMoves-1 {
		t.Fatalf("%d moves", m.Moves())
	}
	makeMoves(t, m, step(0))
	before := m.Run()
	for _, mv := range []api.Move{step(0), step(1), lookAt(0, 0), bumpAt(0, 0)} {
		if m.Move(mv) || m.Moves() != api.MaxMoves || !m.Busy(0) {
			t.Errorf("%+v behind the last move: %d moves", mv, m.Moves())
		}
	}
	wantRun(t, m.Run(), before)
	want := []api.Access{{Move: api.MaxMoves - 1, Kind: api.AccessLoad}}
	if len(before.Calls) != 1 || before.Calls[0].Begin != api.MaxMoves-2 || !slices.Equal(before.Trace, want) {
		t.Errorf("%+v", before)
	}
}

// P3.2: two threads' calls of one op are tasks of their own.
func TestThreadsApart(t *testing.T) {
	m := machineOf(t, 2, []uint64{0, 0}, machine.Own(2))
	makeMoves(t, m, bumpAt(0, 0), bumpAt(1, 1), step(0), step(1), step(0), step(1))
	r := m.Run()
	if !slices.Equal(r.Words, []uint64{1, 1}) || r.Calls[0].Answer != value(0) || r.Calls[1].Answer != value(0) {
		t.Errorf("%+v", r)
	}
}
