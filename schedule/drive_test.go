package schedule_test

import (
	"slices"
	"testing"

	"reclaim/api"
	"reclaim/schedule"
)

// idleCalls are calls that don't begin, of a thread that holds neither a record nor a slot: those that are refused,
// those that the pool doesn't know, a step. Their threads are others'.
func idleCalls() []api.Move {
	var calls []api.Move
	for i, op := range []api.Op{
		api.OpPop, api.OpPush, api.OpStep, api.OpUnregister, api.OpGive, api.OpLook, api.OpBump, 999, -1,
		least, greatest, api.OpPin, api.OpScan, api.OpRead, api.OpStep, api.OpGet,
	} {
		calls = append(calls, api.Move{Thread: i%5 - 2, Op: op, Arg: i, Data: -i})
	}
	return calls
}

// by is calls with another thread.
func by(thread int, calls []api.Move) []api.Move {
	calls = slices.Clone(calls)
	for i := range calls {
		calls[i].Thread = thread
	}
	return calls
}

// P14.4: calls that don't begin have their moves, one behind the other, ahead of one that does; Arg and Data stand as
// they were given, Thread is the thread's own.
func TestDriveIdleCalls(t *testing.T) {
	c := threads(3)
	register := api.Move{Thread: 7, Op: api.OpRegister, Arg: 8, Data: 9}
	begins := slices.Concat(idleCalls(), []api.Move{register, {Op: api.OpPop}})
	p := api.Programs{nil, begins, idleCalls()}
	one := slices.Concat(by(1, begins[:len(begins)-1]), steps(1, 1))
	drive(c, p, 1).want(t, "up to one that begins", c, one)
	drive(c, p, 1, 1).want(t, "and a step", c, slices.Concat(one, steps(1, 1)))
	drive(c, p, 1, 1, 1).want(t, "and the next call", c, slices.Concat(one, steps(1, 1), by(1, with(begins[len(begins)-1], 1))))
	two := by(2, idleCalls())
	drive(c, p, 2).want(t, "none begins", c, two)
	drive(c, p, 2, 2, 2, 1).want(t, "none is left", c, slices.Concat(two, one))
	for i := range idleCalls() {
		alone := api.Programs{idleCalls()[i : i+1]}
		drive(c, alone, 0, 0).want(t, "one alone", c, by(0, alone[0]))
	}
}

// P14.4: a pick of a thread that there isn't, or that has nothing to do, makes no move.
func TestDriveOfNothing(t *testing.T) {
	c := threads(3)
	for _, p := range []api.Programs{nil, {}, {nil}, {{}}, {{}, nil, {}}} {
		drive(c, p, 0, 1, 2, 3, -1, least, greatest).want(t, "no calls", c, nil)
	}
	p := api.Programs{flushes(1), nil}
	want := with(move(0, api.OpFlush, 0), 1)
	drive(c, p).want(t, "no picks", c, nil)
	drive(c, p, 2, 1, -1, 3, least, 1<<32, greatest, 0, 0, 1, 2, 0).want(t, "one call", c, want)
	last := slices.Repeat([][]api.Move{nil}, api.MaxThreads)
	last[api.MaxThreads-1] = flushes(1)
	many := configOf(api.MaxThreads, 1, 3, 1, 0, 1, 1)
	drive(many, last, 16, 15, 15, 0).want(t, "the last thread", many, with(move(15, api.OpFlush, 0), 1))
}

// P14.4: a busy thread makes a step for each pick, and goes on to its next call in the pick behind its call's end.
func TestDriveOneThread(t *testing.T) {
	c := threads(1)
	p := api.Programs{{register(5), push(5, 1), {Thread: 5, Op: api.OpFlush}, push(5, 2)}}
	all := slices.Concat(with(register(0), 2), with(push(0, 1), 7), with(move(0, api.OpFlush, 0), 1), with(push(0, 2), 7))
	for picks := range 25 {
		count := 0 // of the moves that are no calls there are as many as picks
		want := all[:0:0]
		for _, mv := range all {
			if mv.Op == api.OpStep {
				count++
			}
			if count > picks || count == picks && mv.Op != api.OpStep {
				break
			}
			want = append(want, mv)
		}
		drive(c, p, make([]int, picks)...).want(t, "one thread", c, want)
	}
}

// P14.4: picks and calls up to their limits; no more than MaxMoves moves, and the last one of them may begin a call
// whose step is not made.
func TestDriveLimits(t *testing.T) {
	c := threads(2)
	zeros := make([]int, api.MaxMoves)
	flush := []api.Move{{Op: api.OpFlush}, {}}
	for _, x := range []struct {
		what string
		p    api.Programs
		want []api.Move
	}{
		{"as many calls as picks", api.Programs{flushes(api.MaxMoves)}, slices.Repeat(flush, api.MaxMoves/2)},
		{"as many moves as may be", api.Programs{flushes(api.MaxMoves / 2), nil}, slices.Repeat(flush, api.MaxMoves/2)},
		{"a move less", api.Programs{append(flushes(api.MaxMoves/2-1), pops(1)...)}, append(slices.Repeat(flush, api.MaxMoves/2-1), pops(1)...)},
		{"a step too many", api.Programs{append(pops(1), flushes(40000)...)}, append(pops(1), slices.Repeat(flush, api.MaxMoves/2)[:api.MaxMoves-1]...)},
		{"none that begins", api.Programs{pops(api.MaxMoves)}, pops(api.MaxMoves)},
		{"the last one begins", api.Programs{append(pops(api.MaxMoves-1), flushes(1)...)}, append(pops(api.MaxMoves-1), flushes(1)...)},
	} {
		drive(c, x.p, zeros...).want(t, x.what, c, x.want)
		fair(c, x.p, api.MaxMoves).want(t, x.what, c, x.want)
		priority(c, x.p, []int{1, 0}, nil, api.MaxMoves).want(t, x.what, c, x.want)
	}
	full := pops(api.MaxMoves - 1)
	p := api.Programs{full[:api.MaxMoves-2], flushes(2)}
	drive(c, p, 0, 1, 1, 0).want(t, "the other thread's", c, append(full[:api.MaxMoves-2:api.MaxMoves-2], by(1, flush)...))
	p = api.Programs{full, flushes(1)}
	drive(c, p, 0, 1, 1, 0).want(t, "no step of the other thread", c, append(full[:len(full):len(full)], by(1, flush[:1])...))
}

// given is what Drive, Fair and Priority are given.
type given struct {
	c     api.Config
	p     api.Programs
	picks []int
	order []int
	falls []int
	steps int
}

func goodGiven() given {
	return given{example(), programs(), []int{0, 1}, []int{1, 0}, []int{3}, 9}
}

var (
	badConfig   = fault[given]{"a configuration", api.ErrConfig, func(g *given) { g.c.Slots = 0 }}
	longPicks   = fault[given]{"too many picks", api.ErrLong, func(g *given) { g.picks = make([]int, api.MaxMoves+1) }}
	longSteps   = fault[given]{"too many steps", api.ErrLong, func(g *given) { g.steps = api.MaxMoves + 1 }}
	longCalls   = fault[given]{"too many calls", api.ErrLong, func(g *given) { g.p[1] = flushes(api.MaxMoves + 1) }}
	longFalls   = fault[given]{"too many falls", api.ErrLong, func(g *given) { g.falls = make([]int, api.MaxMoves+1) }}
	badPrograms = fault[given]{"too many programs", api.ErrPlan, func(g *given) { g.p = append(g.p, nil) }}
	badOrder    = fault[given]{"no order", api.ErrPlan, func(g *given) { g.order = []int{1, 1} }}
	fewSteps    = fault[given]{"steps below 0", api.ErrRange, func(g *given) { g.steps = -1 }}
)

// P14.4: each error alone, and the first of several.
func TestDriveErrors(t *testing.T) {
	ask := func(g given) answer { return drive(g.c, g.p, g.picks...) }
	if a := ask(goodGiven()); a.e != api.OK {
		t.Errorf("%d", a.e)
	}
	eachFaults(goodGiven, []fault[given]{badConfig, longPicks, longCalls, badPrograms}, func(what string, g given, e api.Errno) {
		ask(g).wantNone(t, what, e)
	})
}

// plans asks each call that is given programs.
func plans(c api.Config, p api.Programs) []answer {
	order := make([]int, max(0, min(c.Threads, 100)))
	for t := range order {
		order[t] = t
	}
	return []answer{drive(c, p, 0, 1), fair(c, p, 5), priority(c, p, order, []int{1}, 5)}
}

// P14.4 to P14.6: each number of a configuration, at its bounds.
func TestConfigs(t *testing.T) {
	for _, c := range badConfigs() {
		for _, p := range []api.Programs{nil, programs(), make(api.Programs, 20), {flushes(api.MaxMoves + 1)}} {
			for _, a := range plans(c, p) {
				a.wantNone(t, "a configuration that may not be", api.ErrConfig)
			}
		}
		for _, steps := range []int{1, -1, greatest} {
			priority(c, nil, nil, nil, steps).wantNone(t, "a configuration that may not be", api.ErrConfig)
			fair(c, nil, steps).wantNone(t, "a configuration that may not be", api.ErrConfig)
		}
	}
	for _, c := range []api.Config{configOf(1, 1, 3, 1, 0, 1, 1), configOf(16, 16, 8, 1024, 64, 1024, 64)} {
		for _, a := range plans(c, nil) {
			a.want(t, "a configuration at its bounds", c, nil)
		}
	}
}

// P14.4 to P14.6: calls are counted in all programs together, also where there are too many programs; as many programs
// as threads may be, also such without calls.
func TestPrograms(t *testing.T) {
	c := threads(3)
	half := flushes(api.MaxMoves / 2)
	for _, p := range []api.Programs{{half, half, flushes(1)}, {half, nil, half, {}, flushes(1)}, {nil, nil, nil, flushes(api.MaxMoves + 1)}, {half, half, half, half, half}} {
		for _, a := range plans(c, p) {
			a.wantNone(t, "too many calls", api.ErrLong)
		}
	}
	for _, p := range []api.Programs{make(api.Programs, 4), {half, nil, nil, half}, {nil, nil, nil, flushes(1)}, make(api.Programs, 100000)} {
		for _, a := range plans(c, p) {
			a.wantNone(t, "too many programs", api.ErrPlan)
		}
	}
	for _, p := range []api.Programs{{half, half}, {half, nil, half}, make(api.Programs, 3), {{}, {}}, {half}} {
		for _, a := range plans(c, p) {
			if a.e != api.OK || len(a.run.Words) == 0 {
				t.Errorf("%d programs: %d", len(p), a.e)
			}
		}
	}
	many := configOf(api.MaxThreads, 1, 3, 1, 0, 1, 1)
	for _, a := range plans(many, make(api.Programs, api.MaxThreads)) {
		a.want(t, "a program of each thread", many, nil)
	}
	for _, a := range plans(many, make(api.Programs, api.MaxThreads+1)) {
		a.wantNone(t, "one more", api.ErrPlan)
	}
}

// P14.4: MaxMoves picks may be, and one more may not.
func TestDrivePicksLimit(t *testing.T) {
	picks, _ := schedule.Round(2, api.MaxMoves)
	drive(example(), programs(), picks...).want(t, "as many picks as may be", example(), fairExample())
	drive(example(), programs(), append(picks, 0)...).wantNone(t, "a pick too many", api.ErrLong)
	drive(example(), nil, append(picks, 0)...).wantNone(t, "a pick too many", api.ErrLong)
}
