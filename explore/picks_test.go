package explore_test

import (
	"slices"
	"testing"

	"reclaim/api"
	"reclaim/explore"
)

// P15.2: the runs of two flushes each, by their numbers.
func TestPicksInOrder(t *testing.T) {
	p := api.Programs{flushes(2), flushes(2)}
	for switches, runs := range [][][]int{
		{{0, 0, 1, 1}, {1, 1, 0, 0}},
		{{0, 0, 1, 1}, {0, 1, 1, 0}, {1, 0, 0, 1}, {1, 1, 0, 0}},
		{{0, 0, 1, 1}, {0, 1, 0, 1}, {0, 1, 1, 0}, {1, 0, 0, 1}, {1, 0, 1, 0}, {1, 1, 0, 0}},
	} {
		for number, picks := range runs {
			wantPicks(t, "two flushes each", example(), p, switches, number, picks)
		}
		for _, number := range []int{-1, len(runs), len(runs) + 1, least, greatest, 1 << 32, -1 << 32} {
			given{c: example(), p: p, switches: switches, number: number}.wantNoPicks(t, "no run", api.ErrRange)
		}
	}
	// Two switches are all that there can be.
	for switches := 2; switches <= api.MaxSwitch; switches++ {
		wantPicks(t, "two flushes each", example(), p, switches, 5, []int{1, 1, 0, 0})
		given{c: example(), p: p, switches: switches, number: 6}.wantNoPicks(t, "no run", api.ErrRange)
	}
}

// P15.2: three threads: where the one picked last has nothing to do, any of the others is no switch.
func TestPicksOfThree(t *testing.T) {
	p := api.Programs{flushes(1), flushes(2), flushes(1)}
	runs := [][]int{
		{0, 1, 1, 2}, {0, 1, 2, 1}, {0, 2, 1, 1},
		{1, 0, 1, 2}, {1, 0, 2, 1}, {1, 1, 0, 2}, {1, 1, 2, 0}, {1, 2, 0, 1}, {1, 2, 1, 0},
		{2, 0, 1, 1}, {2, 1, 0, 1}, {2, 1, 1, 0},
	}
	for number, picks := range runs {
		wantPicks(t, "three threads", threads(3), p, 1, number, picks)
	}
	wantAll(t, "three threads", threads(3), p, 1, len(runs), api.Outcome{Answers: slices.Repeat([]api.Answer{done}, 4), Count: len(runs), First: runs[0]})
	for number, picks := range [][]int{{0, 1, 1, 2}, {0, 2, 1, 1}, {1, 1, 0, 2}, {1, 1, 2, 0}, {2, 0, 1, 1}, {2, 1, 1, 0}} {
		wantPicks(t, "three threads", threads(3), p, 0, number, picks)
	}
}

// P15.2: a number that there isn't comes behind all other errors.
func TestPicksErrors(t *testing.T) {
	fresh := func() given { return given{c: example(), p: pushes(), switches: 1, number: 3} }
	wantPicks(t, "no error", fresh().c, fresh().p, 1, 3, turns(0, 4, 1, 7, 0, 3))
	budget := fault{"too many runs", api.ErrBudget, func(g *given) {
		g.switches = api.MaxSwitch
		g.p = api.Programs{{push(1), push(2)}, {push(3), push(4)}}
	}}
	number := fault{"no such run", api.ErrRange, func(g *given) { g.number = -1 }}
	high := fault{"no such run", api.ErrRange, func(g *given) { g.number = greatest }}
	for _, faults := range [][]fault{
		{badConfig, longPrograms, manyPrograms, badSwitches, number}, {badConfig, budget, high}, {budget, number}, {badConfig, longPrograms, high},
	} {
		eachFaults(fresh, faults, func(what string, g given, e api.Errno) { g.wantNoPicks(t, what, e) })
	}
}

// P15.2: Picks of every number against All's runs: in their order, none twice, the first of each outcome among them.
func TestPicksOfEveryNumber(t *testing.T) {
	for _, p := range []api.Programs{
		pushes(), {{push(1)}, pops(2)}, {{call(api.OpEnqueue, 1)}, {call(api.OpDequeue, 0)}}, {{call(api.OpPost, 1)}, {call(api.OpRead, 0)}, flushes(1)},
	} {
		outcomes, runs := all(t, threads(3), p, 1)
		picks := allPicks(t, threads(3), p, 1, runs)
		for i := 1; i < runs; i++ {
			if slices.Compare(picks[i-1], picks[i]) >= 0 {
				t.Errorf("%v, then %v", picks[i-1], picks[i])
			}
		}
		at := -1
		for _, o := range outcomes {
			number := slices.IndexFunc(picks, func(l []int) bool { return slices.Equal(l, o.First) })
			if number <= at {
				t.Errorf("%v is run %d, behind run %d", o.First, number, at)
			}
			at = number
		}
		if at < 0 || !slices.Equal(picks[0], outcomes[0].First) {
			t.Errorf("the first run of %v is %v", p, outcomes[0].First)
		}
		if _, e := explore.Picks(threads(3), p, 1, runs); e != api.ErrRange {
			t.Errorf("run %d of %d: %d", runs, runs, e)
		}
	}
}
