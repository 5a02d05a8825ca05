package machine_test

import (
	"math"
	"slices"
	"testing"

	"reclaim/api"
	"reclaim/machine"
)

// P3.1: from 1 to MaxThreads threads; ErrConfig comes ahead of ErrLong.
func TestNewThreads(t *testing.T) {
	for _, n := range []int{0, -1, api.MaxThreads + 1, math.MinInt, math.MaxInt} {
		for _, words := range [][]uint64{nil, {1}, make([]uint64, api.MaxWords+1)} {
			if m, e := machine.New(n, words, nil); m != nil || e != api.ErrConfig {
				t.Errorf("New(%d threads, %d words) = %v, %d", n, len(words), m, e)
			}
		}
	}
	for _, n := range []int{1, 2, api.MaxThreads} {
		m := machineOf(t, n, []uint64{4}, machine.Own(1))
		for thread := range n {
			if _, known := m.Call(thread); known || m.Busy(thread) {
				t.Errorf("%d threads: thread %d is not idle at first", n, thread)
			}
		}
		makeMoves(t, m, lookAt(n-1, 0), step(n-1))
		if m.Move(lookAt(n, 0)) || m.Move(lookAt(-1, 0)) {
			t.Errorf("%d threads: there is one more", n)
		}
	}
}

// P3.1: up to MaxWords words, which the machine's memory has.
func TestNewWords(t *testing.T) {
	if m, e := machine.New(1, make([]uint64, api.MaxWords+1), nil); m != nil || e != api.ErrLong {
		t.Errorf("New(MaxWords + 1 words) = %v, %d", m, e)
	}
	words := make([]uint64, api.MaxWords)
	for i := range words {
		words[i] = uint64(i) * 3
	}
	m := machineOf(t, 1, words, machine.Own(len(words)))
	if m.Moves() != 0 {
		t.Errorf("Moves() = %d at first", m.Moves())
	}
	wantRun(t, m.Run(), api.Run{Words: words})
	makeMoves(t, m, lookAt(0, api.MaxWords-1), step(0))
	if c, _ := m.Call(0); c.Answer != value((api.MaxWords-1)*3) {
		t.Errorf("the last word is %+v", c)
	}
	for _, none := range [][]uint64{nil, {}} {
		m := machineOf(t, 1, none, machine.Own(0))
		if m.Move(lookAt(0, 0)) || m.Moves() != 1 || len(m.Run().Words) != 0 {
			t.Error("a machine without words has one")
		}
	}
}

// P3.1: the kit is read at the moves; a nil one knows no call.
func TestNewKit(t *testing.T) {
	for _, kit := range []machine.Kit{nil, {}} {
		m := machineOf(t, 1, []uint64{0}, kit)
		if m.Move(lookAt(0, 0)) || m.Move(step(0)) || m.Moves() != 2 {
			t.Error("a machine without calls does something")
		}
	}
	kit := machine.Kit{}
	m := machineOf(t, 1, []uint64{0}, kit)
	kit[opTest] = func(int, api.Move) machine.Task { return &plan{} }
	makeMoves(t, m, api.Move{Op: opTest}, step(0))
}

// stand is what a machine tells of its threads.
type stand struct {
	busy  [2]bool
	moves int
	calls [2]api.Call
	known [2]bool
}

func standOf(m *machine.Machine) stand {
	s := stand{moves: m.Moves()}
	for thread := range 2 {
		s.busy[thread] = m.Busy(thread)
		s.calls[thread], s.known[thread] = m.Call(thread)
	}
	return s
}

// P3.4 and P3.5: Busy, Moves, Call and Run behind every move.
func TestBehindEveryMove(t *testing.T) {
	m := machineOf(t, 2, []uint64{5, 0}, machine.Own(2))
	bump := api.Call{Thread: 1, Op: api.OpBump, Data: 7, Begin: 1, End: -1, Point: -1}
	bumped := bump
	bumped.End, bumped.Point, bumped.Answer = 5, 5, value(5)
	look := api.Call{Op: api.OpLook, Arg: 1, Begin: 2, End: -1, Point: -1}
	looked := look
	looked.End, looked.Point, looked.Answer = 4, 4, value(0)
	again := api.Call{Thread: 1, Op: api.OpLook, Begin: 6, End: -1, Point: -1}

	steps := []struct {
		move  api.Move
		did   bool
		busy  [2]bool
		calls [2]api.Call
		known [2]bool
		run   []api.Call
		trace int
		words []uint64
	}{
		{move: step(1), words: []uint64{5, 0}},
		{api.Move{Thread: 1, Op: api.OpBump, Data: 7}, true, [2]bool{false, true}, [2]api.Call{{}, bump},
			[2]bool{false, true}, []api.Call{bump}, 0, []uint64{5, 0}},
		{lookAt(0, 1), true, [2]bool{true, true}, [2]api.Call{look, bump},
			[2]bool{true, true}, []api.Call{bump, look}, 0, []uint64{5, 0}},
		{step(1), true, [2]bool{true, true}, [2]api.Call{look, bump},
			[2]bool{true, true}, []api.Call{bump, look}, 1, []uint64{5, 0}},
		{step(0), true, [2]bool{false, true}, [2]api.Call{looked, bump},
			[2]bool{true, true}, []api.Call{bump, looked}, 2, []uint64{5, 0}},
		{step(1), true, [2]bool{}, [2]api.Call{looked, bumped},
			[2]bool{true, true}, []api.Call{bumped, looked}, 3, []uint64{6, 0}},
		{lookAt(1, 0), true, [2]bool{false, true}, [2]api.Call{looked, again},
			[2]bool{true, true}, []api.Call{bumped, looked, again}, 3, []uint64{6, 0}},
		{step(0), false, [2]bool{false, true}, [2]api.Call{looked, again},
			[2]bool{true, true}, []api.Call{bumped, looked, again}, 3, []uint64{6, 0}},
	}
	for i, s := range steps {
		if m.Move(s.move) != s.did {
			t.Fatalf("move %d: did is not %v", i, s.did)
		}
		want := stand{s.busy, i + 1, s.calls, s.known}
		if got := standOf(m); got != want {
			t.Fatalf("behind move %d: %+v, not %+v", i, got, want)
		}
		r := m.Run()
		if !slices.Equal(r.Calls, s.run) || len(r.Trace) != s.trace || !slices.Equal(r.Words, s.words) {
			t.Fatalf("behind move %d: %+v", i, r)
		}
	}
}

// P3.4: of a thread that there isn't.
func TestNoSuchThread(t *testing.T) {
	m := machineOf(t, 2, []uint64{0}, machine.Own(1))
	makeMoves(t, m, lookAt(0, 0), lookAt(1, 0))
	for _, thread := range []int{-1, 2, api.MaxThreads, math.MinInt, math.MaxInt} {
		if c, known := m.Call(thread); m.Busy(thread) || known || c != (api.Call{}) {
			t.Errorf("thread %d: %v, %+v, %v", thread, m.Busy(thread), c, known)
		}
	}
}
