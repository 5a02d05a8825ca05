package machine_test

import (
	"cmp"
	"math"
	"slices"
	"testing"

	"reclaim/api"
	"reclaim/machine"
)

// P3.9 and P9: a machine that New didn't make takes no moves, and knows nothing.
func TestAbsentMachines(t *testing.T) {
	for what, m := range map[string]*machine.Machine{"a nil machine": nil, "the zero machine": {}} {
		for _, mv := range []api.Move{{}, lookAt(0, 0), bumpAt(0, 0), step(0), step(-1), {Thread: math.MaxInt, Op: -1}} {
			if m.Move(mv) || m.Moves() != 0 {
				t.Errorf("%s: Move(%+v) does something", what, mv)
			}
		}
		for _, thread := range []int{0, -1, 1, math.MinInt, math.MaxInt} {
			if c, known := m.Call(thread); m.Busy(thread) || known || c != (api.Call{}) {
				t.Errorf("%s: thread %d: %v, %+v, %v", what, thread, m.Busy(thread), c, known)
			}
		}
		if r := m.Run(); r.Calls != nil || r.Trace != nil || r.Shifts != nil || r.Words != nil {
			t.Errorf("%s: Run() = %+v", what, r)
		}
	}
}

// P5: nothing panics, whatever tasks and makers do; the other threads go on.
func TestTasksThatPanic(t *testing.T) {
	fail := func(*machine.Desk) bool { panic("of the task") }
	var nobody *plan
	kit := machine.Join(machine.Own(1), machine.Kit{
		10: func(int, api.Move) machine.Task { panic("of the maker") },
		11: func(int, api.Move) machine.Task { return &plan{ready: fail} },
		12: func(int, api.Move) machine.Task { return &plan{step: fail} },
		13: func(int, api.Move) machine.Task { return nobody },
	})
	for _, op := range []api.Op{10, 11, 12, 13} {
		m := machineOf(t, 2, []uint64{3}, kit)
		if m.Move(api.Move{Op: op}) != (op != 10) {
			t.Errorf("op %d", op)
		}
		for range 3 {
			m.Move(step(0))
		}
		makeMoves(t, m, bumpAt(1, 0), step(1), step(1))
		if c, _ := m.Call(1); c.Answer != value(3) || m.Moves() != 7 {
			t.Errorf("op %d: %+v behind it", op, c)
		}
	}
}

// P5: a task or a maker that makes moves of its own machine comes to an end.
func TestMovesWithinMoves(t *testing.T) {
	var m *machine.Machine
	again := &plan{step: func(d *machine.Desk) bool { m.Move(step(0)); return false }}
	m = machineOf(t, 1, []uint64{3}, kitOf(again))
	makeMoves(t, m, api.Move{Op: opTest}, step(0))
	if m.Moves() != api.MaxMoves {
		t.Errorf("%d moves", m.Moves())
	}
	kit := machine.Kit{opTest: func(_ int, mv api.Move) machine.Task { m.Move(mv); return again }}
	m = machineOf(t, 1, []uint64{3}, kit)
	makeMoves(t, m, api.Move{Op: opTest})
	if m.Moves() != api.MaxMoves {
		t.Errorf("%d moves", m.Moves())
	}
}

// P2: an access has the number of its own step, whatever moves are made within that.
func TestAccessBehindMovesWithin(t *testing.T) {
	var m *machine.Machine
	outer := &plan{step: func(d *machine.Desk) bool {
		makeMoves(t, m, bumpAt(1, 0), step(1))
		d.Load(1)
		return true
	}}
	m = machineOf(t, 2, []uint64{3, 4}, machine.Join(machine.Own(2), kitOf(outer)))
	makeMoves(t, m, api.Move{Op: opTest}, step(0))
	want := []api.Access{
		{Move: 3, Thread: 1, Kind: api.AccessLoad, Saw: 3},
		{Move: 1, Thread: 0, Kind: api.AccessLoad, Addr: 1, Saw: 4},
	}
	if trace := m.Run().Trace; !slices.Equal(trace, want) {
		t.Errorf("%+v, not %+v", trace, want)
	}
}

// dice are the same numbers each time.
type dice uint64

func (d *dice) below(n int) int {
	*d = *d*6364136223846793005 + 1442695040888963407
	return int(uint64(*d) >> 33 % uint64(n))
}

// chanceMoves are moves of the machine's own calls and others, more steps than not.
func chanceMoves(d *dice, threads, words, count int) []api.Move {
	moves := make([]api.Move, count)
	for i := range moves {
		mv := api.Move{Thread: d.below(threads+2) - 1, Arg: d.below(words+2) - 1, Data: d.below(5)}
		mv.Op = []api.Op{api.OpStep, api.OpStep, api.OpStep, api.OpLook, api.OpBump, opTest}[d.below(6)]
		moves[i] = mv
	}
	return moves
}

func chanceWords(d *dice, count int) []uint64 {
	words := make([]uint64, count)
	for i := range words {
		words[i] = uint64(d.below(3)) - 2
	}
	return words
}

// eachChance goes through scripts of many sizes.
func eachChance(do func(threads int, words []uint64, moves []api.Move)) {
	d := dice(3)
	for range 300 {
		threads, size := 1+d.below(4), 1+d.below(3)
		do(threads, chanceWords(&d, size), chanceMoves(&d, threads, size, d.below(120)))
	}
}

// plain is the machine with its own calls, told in the simplest way: each thread's call, and the
// word that its bump has loaded, if any.
type plain struct {
	words  []uint64
	moves  int
	calls  []api.Call
	trace  []api.Access
	busy   []int
	loaded []*uint64
}

func (p *plain) move(mv api.Move) {
	now := p.moves
	p.moves++
	if mv.Thread < 0 || mv.Thread >= len(p.busy) {
		return
	}
	if mv.Op == api.OpStep {
		if p.busy[mv.Thread] >= 0 {
			p.step(mv.Thread, now)
		}
		return
	}
	own := mv.Op == api.OpLook || mv.Op == api.OpBump
	if p.busy[mv.Thread] >= 0 || !own || mv.Arg < 0 || mv.Arg >= len(p.words) {
		return
	}
	p.busy[mv.Thread] = len(p.calls)
	p.calls = append(p.calls, api.Call{
		Thread: mv.Thread, Op: mv.Op, Arg: mv.Arg, Data: mv.Data, Begin: now, End: -1, Point: -1,
	})
}

func (p *plain) step(thread, now int) {
	c := &p.calls[p.busy[thread]]
	word := p.words[c.Arg]
	a := api.Access{Move: now, Thread: thread, Kind: api.AccessLoad, Addr: c.Arg, Saw: word}
	switch old := p.loaded[thread]; {
	case c.Op == api.OpLook:
		p.end(c, now, word)
	case old == nil:
		p.loaded[thread] = &word
	default:
		a.Kind, a.Old, a.New = api.AccessSwap, *old, *old+1
		p.loaded[thread] = nil
		if word == *old {
			p.words[c.Arg]++
			p.end(c, now, word)
		}
	}
	p.trace = append(p.trace, a)
}

func (p *plain) end(c *api.Call, now int, word uint64) {
	c.End, c.Point, c.Answer = now, now, value(int(word))
	p.busy[c.Thread] = -1
}

func (p *plain) run() api.Run {
	return api.Run{Calls: p.calls, Trace: p.trace, Words: p.words}
}

// P3.2 to P3.6 and P3.8: the runs are those that the simplest machine tells, behind every move.
func TestRunsAgainstThePlainMachine(t *testing.T) {
	eachChance(func(threads int, words []uint64, moves []api.Move) {
		p := &plain{words: slices.Clone(words), busy: slices.Repeat([]int{-1}, threads), loaded: make([]*uint64, threads)}
		m := machineOf(t, threads, words, machine.Own(len(words)))
		for _, mv := range moves {
			p.move(mv)
			m.Move(mv)
			wantRun(t, m.Run(), p.run())
		}
		wantRun(t, playOf(t, threads, words, moves), p.run())
	})
}

// P3.10: a run of some moves is the beginning of a run of more.
func TestRunsGoOn(t *testing.T) {
	eachChance(func(threads int, words []uint64, moves []api.Move) {
		all := playOf(t, threads, words, moves)
		for n := range moves {
			r := playOf(t, threads, words, moves[:n])
			if len(r.Calls) > len(all.Calls) || len(r.Trace) > len(all.Trace) ||
				!slices.Equal(r.Trace, all.Trace[:len(r.Trace)]) {
				t.Fatalf("%d moves: %+v is no beginning of %+v", n, r, all)
			}
			for i, c := range r.Calls {
				later := all.Calls[i]
				if c.End < 0 {
					later.End, later.Point, later.Answer = -1, -1, api.Answer{}
				}
				if c != later {
					t.Fatalf("%d moves: call %d is %+v, then %+v", n, i, c, all.Calls[i])
				}
			}
		}
	})
}

// P3.10: moves that do nothing can be left out without changing anything but the moves' numbers.
func TestIdleMovesLeftOut(t *testing.T) {
	eachChance(func(threads int, words []uint64, moves []api.Move) {
		m := machineOf(t, threads, words, machine.Own(len(words)))
		var kept []api.Move
		number := map[int]int{-1: -1}
		for i, mv := range moves {
			if m.Move(mv) {
				number[i] = len(kept)
				kept = append(kept, mv)
			}
		}
		r := m.Run()
		for i := range r.Calls {
			c := &r.Calls[i]
			c.Begin, c.End, c.Point = number[c.Begin], number[c.End], number[c.Point]
		}
		for i := range r.Trace {
			r.Trace[i].Move = number[r.Trace[i].Move]
		}
		wantRun(t, playOf(t, threads, words, kept), r)
	})
}

// P3.10: no two accesses, beginnings or ends have the same move; the words are what the trace makes
// of the first ones; in the order of their points the calls answer what counters would.
func TestRunsHold(t *testing.T) {
	eachChance(func(threads int, words []uint64, moves []api.Move) {
		r := playOf(t, threads, words, moves)
		var begins, ends, accesses []int
		for _, c := range r.Calls {
			begins = append(begins, c.Begin)
			if c.End >= 0 {
				ends = append(ends, c.End)
			}
		}
		for _, a := range r.Trace {
			accesses = append(accesses, a.Move)
		}
		for _, numbers := range [][]int{begins, ends, accesses} {
			slices.Sort(numbers)
			if len(slices.Compact(numbers)) != len(numbers) {
				t.Fatalf("a move twice: %+v", r)
			}
		}
		if left := traced(words, r.Trace); !slices.Equal(left, r.Words) {
			t.Fatalf("the trace leaves %v, not %v", left, r.Words)
		}
		counters(t, words, r)
	})
}

// traced is what the accesses make of the words, one behind the other.
func traced(words []uint64, trace []api.Access) []uint64 {
	left := slices.Clone(words)
	for _, a := range trace {
		if a.Kind == api.AccessSwap && left[a.Addr] == a.Old {
			left[a.Addr] = a.New
		}
	}
	return left
}

func counters(t *testing.T, words []uint64, r api.Run) {
	t.Helper()
	left := slices.Clone(words)
	calls := slices.DeleteFunc(slices.Clone(r.Calls), func(c api.Call) bool { return c.Point < 0 })
	slices.SortFunc(calls, func(a, b api.Call) int { return cmp.Compare(a.Point, b.Point) })
	for _, c := range calls {
		if c.Answer != value(int(left[c.Arg])) || c.Point <= c.Begin || c.Point > c.End {
			t.Fatalf("%+v, but the counter is %d", c, left[c.Arg])
		}
		if c.Op == api.OpBump {
			left[c.Arg]++
		}
	}
	if !slices.Equal(left, r.Words) {
		t.Fatalf("the counters are %v, not %v", left, r.Words)
	}
}

// P6: a run hangs on what was handed in alone.
func TestPlayTwice(t *testing.T) {
	eachChance(func(threads int, words []uint64, moves []api.Move) {
		r := playOf(t, threads, words, moves)
		again := playOf(t, threads, words, moves)
		wantRun(t, again, r)
		kept := copyRun(again)
		spoil(r)
		wantRun(t, again, kept)
		wantRun(t, playOf(t, threads, words, moves), kept)
	})
}
