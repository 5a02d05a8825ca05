package machine_test

import (
	"slices"
	"testing"

	"reclaim/api"
	"reclaim/machine"
)

// opTest is an op that no chapter has.
const opTest api.Op = 999

// plan is a task whose Ready and Step are what a test says; without them Ready does nothing, and
// Step ends the task.
type plan struct {
	ready func(d *machine.Desk) bool
	step  func(d *machine.Desk) bool
}

func (p *plan) Ready(d *machine.Desk) bool {
	return p.ready != nil && p.ready(d)
}

func (p *plan) Step(d *machine.Desk) bool {
	return p.step == nil || p.step(d)
}

// kitOf knows one call, opTest, which is always that task.
func kitOf(task machine.Task) machine.Kit {
	return machine.Kit{opTest: func(int, api.Move) machine.Task { return task }}
}

// machineOf is a machine that is to be made.
func machineOf(t *testing.T, threads int, words []uint64, kit machine.Kit) *machine.Machine {
	t.Helper()
	m, e := machine.New(threads, words, kit)
	if e != api.OK || m == nil {
		t.Fatalf("New(%d threads, %d words) = %v, %d", threads, len(words), m, e)
	}
	return m
}

// playOf is a run that is to be made.
func playOf(t *testing.T, threads int, words []uint64, moves []api.Move) api.Run {
	t.Helper()
	r, e := machine.Play(threads, words, moves)
	if e != api.OK {
		t.Fatalf("Play = %d", e)
	}
	return r
}

func step(thread int) api.Move { return api.Move{Thread: thread, Op: api.OpStep} }

func lookAt(thread int, addr int) api.Move {
	return api.Move{Thread: thread, Op: api.OpLook, Arg: addr}
}

func bumpAt(thread int, addr int) api.Move {
	return api.Move{Thread: thread, Op: api.OpBump, Arg: addr}
}

func value(v int) api.Answer { return api.Answer{Kind: api.AnswerValue, Value: v} }

// makeMoves makes moves of which each is to do something.
func makeMoves(t *testing.T, m *machine.Machine, moves ...api.Move) {
	t.Helper()
	for _, mv := range moves {
		if !m.Move(mv) {
			t.Fatalf("%+v does nothing", mv)
		}
	}
}

// sameRun tells whether two runs are the same; nil and empty lists are.
func sameRun(a, b api.Run) bool {
	return slices.Equal(a.Calls, b.Calls) && slices.Equal(a.Trace, b.Trace) &&
		slices.Equal(a.Shifts, b.Shifts) && slices.Equal(a.Words, b.Words)
}

// copyRun is a run whose lists are the test's own.
func copyRun(r api.Run) api.Run {
	return api.Run{
		Calls:  slices.Clone(r.Calls),
		Trace:  slices.Clone(r.Trace),
		Shifts: slices.Clone(r.Shifts),
		Words:  slices.Clone(r.Words),
	}
}

func wantRun(t *testing.T, got, want api.Run) {
	t.Helper()
	if !sameRun(got, want) {
		t.Fatalf("run\n%+v, not\n%+v", got, want)
	}
}
