package machine_test

import (
	"math"
	"slices"
	"testing"

	"reclaim/api"
	"reclaim/machine"
)

// inStep makes one step of a task of thread 1 of 2, the machine's move 3, that does what it is told.
func inStep(t *testing.T, words []uint64, do func(d *machine.Desk)) api.Run {
	t.Helper()
	task := &plan{step: func(d *machine.Desk) bool { do(d); return true }}
	m := machineOf(t, 2, words, kitOf(task))
	m.Move(step(0))
	m.Move(step(0))
	makeMoves(t, m, api.Move{Thread: 1, Op: opTest}, step(1))
	return m.Run()
}

// P3.3: the step's thread and its move's number, in Ready and in Step.
func TestThreadAndNow(t *testing.T) {
	var seen [][2]int
	see := func(d *machine.Desk) { seen = append(seen, [2]int{d.Thread(), d.Now()}) }
	kit := machine.Kit{opTest: func(int, api.Move) machine.Task {
		left := 2
		return &plan{
			ready: func(d *machine.Desk) bool { see(d); return false },
			step:  func(d *machine.Desk) bool { see(d); left--; return left == 0 },
		}
	}}
	m := machineOf(t, 3, []uint64{0}, kit)
	for _, thread := range []int{2, 1} {
		makeMoves(t, m, api.Move{Thread: thread, Op: opTest})
	}
	makeMoves(t, m, step(1), step(2), step(2), step(1))
	want := [][2]int{{1, 2}, {1, 2}, {2, 3}, {2, 3}, {2, 4}, {1, 5}}
	if !slices.Equal(seen, want) {
		t.Errorf("seen %v, not %v", seen, want)
	}
}

// P3.3: each access is recorded, with its move and thread.
func TestAccesses(t *testing.T) {
	const big = 1<<64 - 1
	for _, c := range []struct {
		do    func(d *machine.Desk)
		want  api.Access
		words []uint64
	}{
		{func(d *machine.Desk) {
			if w := d.Load(1); w != 9 {
				t.Errorf("Load(1) = %d", w)
			}
		}, api.Access{Kind: api.AccessLoad, Addr: 1, Saw: 9}, []uint64{8, 9}},
		{func(d *machine.Desk) { d.Store(0, big) },
			api.Access{Kind: api.AccessStore, New: big}, []uint64{big, 9}},
		{func(d *machine.Desk) {
			if !d.Swap(1, 9, 7) {
				t.Error("Swap(1, 9, 7) failed")
			}
		}, api.Access{Kind: api.AccessSwap, Addr: 1, Old: 9, New: 7, Saw: 9}, []uint64{8, 7}},
		{func(d *machine.Desk) {
			if d.Swap(1, 8, 7) {
				t.Error("Swap(1, 8, 7) succeeded")
			}
		}, api.Access{Kind: api.AccessSwap, Addr: 1, Old: 8, New: 7, Saw: 9}, []uint64{8, 9}},
	} {
		c.want.Move, c.want.Thread = 3, 1
		r := inStep(t, []uint64{8, 9}, c.do)
		if !slices.Equal(r.Trace, []api.Access{c.want}) || !slices.Equal(r.Words, c.words) {
			t.Errorf("%+v, not %+v with %v", r, c.want, c.words)
		}
	}
}

// accesses are the three kinds, each told whether it answered 0 or false.
func accesses(addr int) map[string]func(d *machine.Desk) bool {
	return map[string]func(d *machine.Desk) bool{
		"load":  func(d *machine.Desk) bool { return d.Load(addr) == 0 },
		"store": func(d *machine.Desk) bool { d.Store(addr, 5); return true },
		"swap":  func(d *machine.Desk) bool { return !d.Swap(addr, 4, 6) },
	}
}

// P3.3 and the rules of 'Words': an access beyond the first of a step does nothing.
func TestBeyondTheFirst(t *testing.T) {
	for first, begin := range accesses(0) {
		for second, more := range accesses(0) {
			alone := inStep(t, []uint64{4}, func(d *machine.Desk) { begin(d) })
			r := inStep(t, []uint64{4}, func(d *machine.Desk) {
				begin(d)
				if !more(d) || !more(d) {
					t.Errorf("%s behind a %s answers something", second, first)
				}
			})
			if len(r.Trace) != 1 || !sameRun(r, alone) {
				t.Errorf("%s behind a %s: %+v", second, first, r)
			}
		}
	}
}

// The first access of a step may be Ready's, of a task that doesn't keep to the rules; a step has
// one access then too, and the next step has its own.
func TestReadyHasTheStepsAccess(t *testing.T) {
	var saw []uint64
	load := func(d *machine.Desk) bool { saw = append(saw, d.Load(0)); return false }
	m := machineOf(t, 1, []uint64{4}, kitOf(&plan{ready: load, step: load}))
	makeMoves(t, m, api.Move{Op: opTest}, step(0), step(0))
	if !slices.Equal(saw, []uint64{4, 0, 4}) || len(m.Run().Trace) != 2 {
		t.Errorf("saw %v, %+v", saw, m.Run().Trace)
	}
}

// P3.3 and the rules of 'Words': an access at an address that there isn't does nothing.
func TestNoSuchAddress(t *testing.T) {
	for _, addr := range []int{-1, 1, 2, math.MinInt, math.MaxInt} {
		for what, do := range accesses(addr) {
			r := inStep(t, []uint64{4}, func(d *machine.Desk) {
				if !do(d) {
					t.Errorf("%s at %d answers something", what, addr)
				}
			})
			if len(r.Trace) != 0 || !slices.Equal(r.Words, []uint64{4}) {
				t.Errorf("%s at %d: %+v", what, addr, r)
			}
		}
	}
}

// What does nothing is not the step's access either.
func TestAccessBehindNoSuchAddress(t *testing.T) {
	for what, do := range accesses(1) {
		r := inStep(t, []uint64{4}, func(d *machine.Desk) {
			do(d)
			if w := d.Load(0); w != 4 {
				t.Errorf("behind a %s at no address: %d", what, w)
			}
		})
		if len(r.Trace) != 1 || r.Trace[0] != (api.Access{Move: 3, Thread: 1, Kind: api.AccessLoad, Saw: 4}) {
			t.Errorf("behind a %s at no address: %+v", what, r.Trace)
		}
	}
}

// P3.3: shifts are recorded as they are told, in their order.
func TestShift(t *testing.T) {
	r := inStep(t, nil, func(d *machine.Desk) {
		d.Shift(4, api.StateFree, api.StateOwned)
		d.Shift(math.MinInt, api.State(99), api.State(-1))
		d.Shift(4, api.StateFree, api.StateOwned)
	})
	own := api.Shift{Move: 3, Thread: 1, Slot: 4, From: api.StateFree, To: api.StateOwned}
	odd := api.Shift{Move: 3, Thread: 1, Slot: math.MinInt, From: 99, To: -1}
	if !slices.Equal(r.Shifts, []api.Shift{own, odd, own}) {
		t.Errorf("%+v", r.Shifts)
	}
}

// P3.3: of several points and answers the last one counts; without an answer it is AnswerDone.
func TestPointAndAnswer(t *testing.T) {
	for _, c := range []struct {
		do     func(d *machine.Desk)
		point  int
		answer api.Answer
	}{
		{func(d *machine.Desk) {}, -1, api.Answer{Kind: api.AnswerDone}},
		{func(d *machine.Desk) { d.Point(d.Now()) }, 3, api.Answer{Kind: api.AnswerDone}},
		{func(d *machine.Desk) { d.Point(3); d.Point(2) }, 2, api.Answer{Kind: api.AnswerDone}},
		{func(d *machine.Desk) { d.Answer(value(math.MinInt)) }, -1, value(math.MinInt)},
		{func(d *machine.Desk) {
			d.Answer(value(4))
			d.Answer(api.Answer{Kind: api.AnswerNo})
		}, -1, api.Answer{Kind: api.AnswerNo}},
		{func(d *machine.Desk) { d.Answer(value(4)); d.Answer(api.Answer{}) }, -1, api.Answer{Kind: api.AnswerDone}},
	} {
		r := inStep(t, nil, c.do)
		want := api.Call{Thread: 1, Op: opTest, Begin: 2, End: 3, Point: c.point, Answer: c.answer}
		if len(r.Calls) != 1 || r.Calls[0] != want {
			t.Errorf("%+v, not %+v", r.Calls, want)
		}
	}
}

// P3.3: what a call's task has told is not another call's.
func TestAnswersApart(t *testing.T) {
	kit := machine.Kit{opTest: func(thread int, mv api.Move) machine.Task {
		return &plan{step: func(d *machine.Desk) bool {
			if mv.Arg != 0 {
				d.Point(mv.Arg)
				d.Answer(value(mv.Arg))
			}
			return true
		}}
	}}
	m := machineOf(t, 2, nil, kit)
	makeMoves(t, m, api.Move{Op: opTest, Arg: 5}, api.Move{Thread: 1, Op: opTest}, step(0), step(1),
		api.Move{Op: opTest}, step(0))
	done := api.Answer{Kind: api.AnswerDone}
	want := []api.Call{
		{Op: opTest, Arg: 5, Begin: 0, End: 2, Point: 5, Answer: value(5)},
		{Thread: 1, Op: opTest, Begin: 1, End: 3, Point: -1, Answer: done},
		{Op: opTest, Begin: 4, End: 5, Point: -1, Answer: done},
	}
	if calls := m.Run().Calls; !slices.Equal(calls, want) {
		t.Errorf("%+v, not %+v", calls, want)
	}
}

// idleDesk asks that a desk does nothing and answers zero values.
func idleDesk(t *testing.T, what string, d *machine.Desk) {
	t.Helper()
	for _, addr := range []int{0, -1, math.MaxInt} {
		d.Store(addr, 1)
		if w, ok := d.Load(addr), d.Swap(addr, 0, 1); w != 0 || ok {
			t.Errorf("%s: Load(%d) = %d, Swap = %v", what, addr, w, ok)
		}
	}
	d.Shift(0, api.StateFree, api.StateOwned)
	d.Point(1)
	d.Answer(value(1))
	if d.Thread() != 0 || d.Now() != 0 {
		t.Errorf("%s: Thread() = %d, Now() = %d", what, d.Thread(), d.Now())
	}
}

// P3.9: a desk that no machine handed out.
func TestDeskOfNobody(t *testing.T) {
	idleDesk(t, "a nil desk", nil)
	idleDesk(t, "the zero desk", &machine.Desk{})
}

// A desk, and what was copied of it, is of its step alone.
func TestDeskIsOfItsStep(t *testing.T) {
	var kept *machine.Desk
	var other machine.Desk
	task := &plan{step: func(d *machine.Desk) bool {
		if kept != nil {
			idleDesk(t, "a desk of an earlier step", kept)
		}
		kept, other = d, *d
		d.Store(0, 7)
		if other.Load(0) != 0 {
			t.Error("a copied desk has an access of its own")
		}
		return false
	}}
	m := machineOf(t, 2, []uint64{4}, kitOf(task))
	makeMoves(t, m, api.Move{Op: opTest}, api.Move{Thread: 1, Op: opTest}, step(0), step(1))
	before := m.Run()
	idleDesk(t, "a desk behind its step", kept)
	idleDesk(t, "a copied desk behind its step", &other)
	wantRun(t, m.Run(), before)
	if len(before.Trace) != 2 {
		t.Errorf("%+v", before.Trace)
	}
}
