package explore_test

import (
	"slices"
	"testing"

	"reclaim/api"
	"reclaim/explore"
)

// P15.1: programs of which none has a call: one run without picks, whatever switches there may be.
func TestNoCalls(t *testing.T) {
	for _, p := range []api.Programs{nil, {nil}, {{}}, {nil, nil}, {{}, nil, {}}, make(api.Programs, 3)} {
		for _, switches := range []int{0, 1, 8} {
			wantAll(t, "no calls", threads(3), p, switches, 1, api.Outcome{Count: 1})
			wantPicks(t, "no calls", threads(3), p, switches, 0, nil)
			wantExplained(t, "no calls", threads(3), p, switches, nil)
		}
	}
	many := configOf(api.MaxThreads, api.MaxRecords, 8, 1024, 64, 1024, 64)
	wantAll(t, "no calls of the most threads", many, make(api.Programs, api.MaxThreads), 8, 1, api.Outcome{Count: 1})
}

// P15.1: programs of which some have no call.
func TestSomeWithoutCalls(t *testing.T) {
	c := threads(3)
	for switches := range 9 {
		one := api.Outcome{Answers: []api.Answer{done}, Left: stackOf(5), Count: 1, First: turns(2, 7)}
		wantAll(t, "the last one", c, api.Programs{nil, {}, {push(5)}}, switches, 1, one)
		one.First = turns(1, 7)
		wantAll(t, "the one between", c, api.Programs{nil, {push(5)}, nil}, switches, 1, one)
		one.First = turns(0, 7)
		wantAll(t, "the first one", c, api.Programs{{push(5)}}, switches, 1, one)
	}
	both := api.Outcome{Answers: []api.Answer{empty, empty}, Count: 2, First: []int{0, 2}}
	wantAll(t, "two with one between", c, api.Programs{pops(1), nil, pops(1)}, 0, 2, both)
}

// P15.1: all threads that take part register, from 0 on, also those without calls, and none else does: by who gets the
// only record it is told.
func TestWhoRegisters(t *testing.T) {
	c := configOf(3, 1, 3, 1, 0, 4, 1)
	first := api.Outcome{Answers: []api.Answer{done}, Left: stackOf(5), Count: 1, First: turns(0, 7)}
	wantAll(t, "thread 0 has it", c, api.Programs{{push(5)}}, 0, 1, first)
	wantAll(t, "thread 0 has it", c, api.Programs{{push(5)}, nil, {}}, 0, 1, first)
	wantAll(t, "a thread without calls has it", c, api.Programs{nil, {push(5)}}, 0, 1, api.Outcome{Answers: []api.Answer{none}, Count: 1, First: []int{1}})
	wantAll(t, "thread 0 alone pushes", c, api.Programs{{push(5)}, {push(6)}}, 0, 2,
		api.Outcome{Answers: []api.Answer{done, none}, Left: stackOf(5), Count: 2, First: turns(0, 7, 1, 1)})
	// Thread 0 gives the record back: three hazards, an empty list, the flag; thread 1 takes it, or comes too early.
	p := api.Programs{{call(api.OpUnregister, 0)}, {call(api.OpRegister, 0), push(5)}}
	wantAll(t, "the record goes on", c, p, 0, 2,
		api.Outcome{Answers: []api.Answer{done, value(0), done}, Left: stackOf(5), Count: 1, First: turns(0, 4, 1, 9)},
		api.Outcome{Answers: []api.Answer{done, full, none}, Count: 1, First: turns(1, 2, 0, 4)})
}

// P15.1: calls that don't begin are left out, with the zero answer: in the pick of the one that begins behind them, or
// in a pick of their own, if none does.
func TestLeftOut(t *testing.T) {
	c := example()
	for _, mv := range idle() {
		wantAll(t, "alone", c, api.Programs{{mv}}, 0, 1, api.Outcome{Answers: []api.Answer{none}, Count: 1, First: []int{0}})
		wantAll(t, "ahead", c, api.Programs{{mv, mv, call(api.OpPop, 0)}}, 0, 1,
			api.Outcome{Answers: []api.Answer{none, none, empty}, Count: 1, First: []int{0}})
		wantAll(t, "between", c, api.Programs{{push(5), mv, mv, mv, push(6)}}, 0, 1,
			api.Outcome{Answers: []api.Answer{done, none, none, none, done}, Left: stackOf(6, 5), Count: 1, First: turns(0, 14)})
		wantAll(t, "behind", c, api.Programs{nil, {push(5), mv, mv}}, 0, 1,
			api.Outcome{Answers: []api.Answer{done, none, none}, Left: stackOf(5), Count: 1, First: turns(1, 8)})
	}
	wantAll(t, "nothing that begins", c, api.Programs{idle()[:4], idle()[4:8]}, 0, 2,
		api.Outcome{Answers: make([]api.Answer, 8), Count: 2, First: []int{0, 1}})
}

// P15.1: a thread has something to do as long as it has calls left, whether they begin or not.
func TestLeftOutCanBeSwitchedFrom(t *testing.T) {
	p := api.Programs{{call(api.OpFlush, 0), call(99, 0)}, {call(99, 0)}}
	answers := []api.Answer{done, none, none}
	wantAll(t, "no switch", example(), p, 0, 2, api.Outcome{Answers: answers, Count: 2, First: []int{0, 0, 1}})
	wantAll(t, "a switch", example(), p, 1, 3, api.Outcome{Answers: answers, Count: 3, First: []int{0, 0, 1}})
	for number, picks := range [][]int{{0, 0, 1}, {0, 1, 0}, {1, 0, 0}} {
		wantPicks(t, "a switch", example(), p, 1, number, picks)
	}
}

// P15.1: a call can be refused by what others, or the thread's own calls, have done.
func TestRefusedByTheState(t *testing.T) {
	c := example() // slot 0 is the queue's, so the first one taken is slot 1
	p := api.Programs{{call(api.OpGive, 1), call(api.OpTake, 0), call(api.OpGive, 1), call(api.OpGive, 1)}}
	wantAll(t, "a slot is given once", c, p, 0, 1, api.Outcome{Answers: []api.Answer{none, value(1), done, none}, Count: 1, First: turns(0, 7)})
	p = api.Programs{{call(api.OpTake, 0)}, {call(api.OpGive, 1), call(api.OpGive, 2), call(api.OpFlush, 0)}}
	wantAll(t, "another's slot", c, p, 0, 2, api.Outcome{Answers: []api.Answer{value(1), none, none, done}, Count: 2, First: turns(0, 3, 1, 1)})
}

// P15.1: what stands in a move's Thread is not looked at.
func TestThreadIsNotLookedAt(t *testing.T) {
	for _, thread := range []int{1, -1, 2, 77, least, greatest} {
		p := pushes()
		p[0][0].Thread, p[1][0].Thread = thread, thread
		got, runs := all(t, example(), p, 1)
		want, n := all(t, example(), pushes(), 1)
		if runs != n || !sameOutcomes(got, want) {
			t.Errorf("thread %d: %d runs, %v", thread, runs, got)
		}
		wantSwitches(t, "other threads", example(), p, []int{0, 1, 0}, 2)
	}
}

// P15.1: outcomes that several runs come to: in the order of their first runs, with what came to them counted. A push
// of seven steps is met by a pop, which finds it behind the last one only.
func TestSeveralRunsOneOutcome(t *testing.T) {
	c := example()
	p := api.Programs{{push(5)}, pops(1)}
	got, runs := all(t, c, p, 1)
	if runs != 8 || len(got) != 2 {
		t.Fatalf("%d runs, %v", runs, got)
	}
	popped, missed := got[0], got[1]
	if popped.Count != 1 || !slices.Equal(popped.Answers, []api.Answer{done, value(5)}) || len(popped.Left.Stack) != 0 {
		t.Errorf("%v", popped)
	}
	if missed.Count != 7 || !slices.Equal(missed.Answers, []api.Answer{done, empty}) || !slices.Equal(missed.Left.Stack, []int{5}) {
		t.Errorf("%v", missed)
	}
	if !slices.Equal(missed.First, turns(0, 6, 1, 1, 0, 1)) {
		t.Errorf("the first run of %v", missed)
	}
	// Like answers with another thing left, and other answers with the same left, are other outcomes.
	if got, _ := all(t, c, pushes(), 2); len(got) != 2 || !slices.Equal(got[0].Answers, got[1].Answers) {
		t.Errorf("%v", got)
	}
	if got, _ := all(t, c, api.Programs{{call(api.OpInsert, 1)}, {call(api.OpInsert, 1)}}, 1); len(got) != 2 || !slices.Equal(got[0].Left.Set, got[1].Left.Set) ||
		!slices.Equal(got[0].Answers, []api.Answer{yes, no}) || !slices.Equal(got[1].Answers, []api.Answer{no, yes}) {
		t.Errorf("%v", got)
	}
}

// P15.1: each object's contents, and the arena's own calls, which leave nothing.
func TestWhatIsLeft(t *testing.T) {
	c := configOf(1, 1, 3, 1, 0, 9, 2)
	p := api.Programs{{
		call(api.OpPost, 1), push(2), call(api.OpEnqueue, 3), call(api.OpInsert, 4), {Op: api.OpAdd, Arg: 5, Data: 6},
		{Op: api.OpAdd, Arg: -5, Data: 7}, call(api.OpTake, 0), call(api.OpScan, 0),
	}}
	got, runs := all(t, c, p, 0)
	want := api.Contents{Cell: []int{1}, Stack: []int{2}, Queue: []int{3}, Set: []int{4}, Table: []api.Pair{{Key: -5, Value: 7}, {Key: 5, Value: 6}}}
	answers := []api.Answer{done, done, done, yes, yes, yes, value(7), done}
	if runs != 1 || len(got) != 1 || !sameOutcome(got[0], api.Outcome{Answers: answers, Left: want, Count: 1, First: make([]int, len(got[0].First))}) {
		t.Errorf("%d runs, %v", runs, got)
	}
}

// P15.5: n! runs with 0 switches, of those threads that have calls; the seventh is above the budget.
func TestWithoutSwitches(t *testing.T) {
	c := configOf(16, 16, 3, 1, 0, 16, 1)
	want := 1
	for n := range 7 {
		want *= max(1, n)
		p := make(api.Programs, 2*n+1) // with threads without calls between
		for i := range n {
			p[2*i+1] = []api.Move{push(i)}
		}
		got, runs := all(t, c, p, 0)
		if runs != want || len(got) != want {
			t.Errorf("%d threads: %d runs, %d outcomes", n, runs, len(got))
		}
		for _, o := range got {
			if o.Count != 1 || len(o.Left.Stack) != n {
				t.Errorf("%d threads: %v", n, o)
			}
		}
	}
	given{c: c, p: slices.Repeat(api.Programs{pops(1)}, 7)}.wantError(t, "5040 runs", api.ErrBudget)
	p := slices.Repeat(api.Programs{pops(1)}, 6)
	wantAll(t, "720 runs", c, p, 0, 720, api.Outcome{Answers: slices.Repeat([]api.Answer{empty}, 6), Count: 720, First: []int{0, 1, 2, 3, 4, 5}})
	wantPicks(t, "720 runs", c, p, 0, 719, []int{5, 4, 3, 2, 1, 0})
	wantPicks(t, "720 runs", c, p, 0, 121, []int{1, 0, 2, 3, 5, 4})
}

// alone is how many runs two threads have that make so many picks each, whatever the other one does, with at most so
// many switches: in b blocks one thread's picks are cut into half of them, the other's into the other half, and all
// that changes from block to block is a switch, but the last one.
func alone(one, two, switches int) int {
	runs := 0
	for blocks := 2; blocks <= switches+2; blocks++ {
		more, fewer := (blocks+1)/2, blocks/2
		runs += cuts(one, more)*cuts(two, fewer) + cuts(two, more)*cuts(one, fewer)
	}
	return runs
}

// cuts is in how many ways a number is a sum of so many, none below 1.
func cuts(number, parts int) int {
	ways := 1
	for i := 1; i < parts; i++ {
		ways = ways * (number - i) / i
	}
	return ways
}

// P15.1: runs of two threads that don't meet are as many as can be told ahead.
func TestThreadsThatDoNotMeet(t *testing.T) {
	for one := 1; one < 8; one++ {
		for two := 1; one+two <= 8; two++ {
			for switches := range 9 {
				p := api.Programs{pops(one), flushes(two)}
				answers := append(slices.Repeat([]api.Answer{empty}, one), slices.Repeat([]api.Answer{done}, two)...)
				wantAll(t, "pops and flushes", example(), p, switches, alone(one, two, switches),
					api.Outcome{Answers: answers, Count: alone(one, two, switches), First: turns(0, one, 1, two)})
			}
		}
	}
}

// most is programs of two threads that don't meet, with just as many runs as may be. Thread 0 has ten picks, a push's
// seven and a take's three. Thread 1 has 216: each of its scans looks at record 0, which is taken, and helps the 14
// others, which are not, with three steps each; and one flush.
func most() given {
	p := api.Programs{{push(1), call(api.OpTake, 0)}, append(slices.Repeat([]api.Move{call(api.OpScan, 0)}, 5), flushes(1)...)}
	return given{c: configOf(2, 16, 3, 1, 0, 4, 1), p: p, switches: 2}
}

// P15.1, P15.2, P15.4: as many runs as may be.
func TestBudget(t *testing.T) {
	g := most()
	if alone(10, 216, 2) != api.MaxRuns {
		t.Fatalf("%d", alone(10, 216, 2))
	}
	answers := []api.Answer{done, value(2), done, done, done, done, done, done}
	wantAll(t, "4096 runs", g.c, g.p, 2, api.MaxRuns, api.Outcome{Answers: answers, Left: stackOf(1), Count: api.MaxRuns, First: turns(0, 10, 1, 216)})
	wantPicks(t, "4096 runs", g.c, g.p, 2, 0, turns(0, 10, 1, 216))
	wantPicks(t, "4096 runs", g.c, g.p, 2, 4095, turns(1, 216, 0, 10))
	wantPicks(t, "4096 runs", g.c, g.p, 2, 4094, turns(1, 215, 0, 1, 1, 1, 0, 9))
	wantPicks(t, "4096 runs", g.c, g.p, 2, 4093, turns(1, 215, 0, 2, 1, 1, 0, 8))
	wantExplained(t, "4096 runs", g.c, g.p, 2, []int{0})
	for _, number := range []int{-1, 4096, 4097, least, greatest} {
		g.number = number
		g.wantNoPicks(t, "no run", api.ErrRange)
	}
}

// aboveByOne is programs with one run more than may be.
func aboveByOne() given {
	c := configOf(2, 2, 3, 1, 1, 5, 2)
	p := api.Programs{{call(api.OpDelete, 0), call(api.OpDelete, 0)}, {call(api.OpInsert, 1), call(api.OpDelete, 0)}}
	return given{c: c, p: p, switches: 3}
}

func TestAboveByOneIsByOne(t *testing.T) {
	g := aboveByOne()
	if runs := plainOf(g.c, g.p).runs(g.switches); len(runs) != api.MaxRuns+1 {
		t.Errorf("%d runs", len(runs))
	}
}

// P15.1, P15.2, P15.4: more runs than may be, whatever number is asked for.
func TestAboveBudget(t *testing.T) {
	more := most()
	more.switches = 3
	three := given{c: threads(3), p: slices.Repeat(api.Programs{{push(1)}}, 3), switches: 3}
	for what, g := range map[string]given{"4097 runs": aboveByOne(), "another switch": more, "three threads": three} {
		g.wantError(t, what, api.ErrBudget)
		for _, number := range []int{-1, greatest} {
			g.number = number
			g.wantNoPicks(t, what, api.ErrBudget)
		}
	}
}

// P15.1: bounds of what is given: 8 calls in one program or in several, as many programs as threads, 0 and 8 switches.
func TestBounds(t *testing.T) {
	c := configOf(16, 16, 3, 1, 0, 4, 1)
	for _, p := range []api.Programs{{flushes(8)}, append(make(api.Programs, 15), flushes(8)), {flushes(7), {{Op: 99}}}} {
		for _, switches := range []int{0, 8} {
			if _, _, e := explore.All(c, p, switches); e != api.OK {
				t.Errorf("%v with %d switches: %d", p, switches, e)
			}
			if _, e := explore.Picks(c, p, switches, 0); e != api.OK {
				t.Errorf("%v with %d switches: %d", p, switches, e)
			}
			if _, e := explore.Explained(c, p, switches); e != api.OK {
				t.Errorf("%v with %d switches: %d", p, switches, e)
			}
			if _, e := explore.Switches(c, p, nil); e != api.OK {
				t.Errorf("%v: %d", p, e)
			}
		}
	}
}
