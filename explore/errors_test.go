package explore_test

import (
	"slices"
	"testing"

	"reclaim/api"
)

var (
	badConfig    = fault{"a configuration", api.ErrConfig, func(g *given) { g.c.Slots = 0 }}
	longPrograms = fault{"too many calls", api.ErrLong, func(g *given) { g.p[1] = pops(8) }}
	manyPrograms = fault{"too many programs", api.ErrRange, func(g *given) { g.p = append(g.p, nil) }}
	badSwitches  = fault{"switches below 0", api.ErrRange, func(g *given) { g.switches = -1 }}
	highSwitches = fault{"too many switches", api.ErrRange, func(g *given) { g.switches = 9 }}
	manyRuns     = fault{"too many runs", api.ErrBudget, func(g *given) { g.switches = 8; g.p[0] = []api.Move{push(1), push(2)} }}
)

func goodGiven() given { return given{c: example(), p: pushes(), switches: 1, picks: []int{0, 1}} }

// P15.1, P15.2, P15.4: each error alone, and the first of several.
func TestErrors(t *testing.T) {
	g := goodGiven()
	if _, runs := all(t, g.c, g.p, g.switches); runs != 14 {
		t.Errorf("%d runs", runs)
	}
	for _, faults := range [][]fault{
		{badConfig, longPrograms, manyPrograms, badSwitches}, {badConfig, longPrograms, highSwitches, manyPrograms},
		{badConfig, longPrograms, manyPrograms, manyRuns}, {manyRuns},
	} {
		eachFaults(goodGiven, faults, func(what string, g given, e api.Errno) { g.wantError(t, what, e) })
	}
	// Too many runs with one more thing wrong that isn't undone by it.
	g.p = slices.Repeat(api.Programs{pops(1)}, 7)
	g.c = threads(7)
	g.switches = 0
	g.wantError(t, "5040 runs", api.ErrBudget)
	g.c.Threads = 6
	g.wantError(t, "5040 runs of a thread too many", api.ErrRange)
	g.c.Buckets = 65
	g.wantError(t, "5040 runs of no configuration", api.ErrConfig)
}

// P15.1 to P15.4: each number of a configuration, at its bounds.
func TestConfigs(t *testing.T) {
	for _, c := range badConfigs() {
		for _, p := range []api.Programs{nil, pushes(), make(api.Programs, 20), {flushes(9)}} {
			g := given{c: c, p: p, picks: []int{-1}, switches: 99, number: -1}
			g.wantError(t, "a configuration that may not be", api.ErrConfig)
			g.wantNoSwitches(t, "a configuration that may not be", api.ErrConfig)
			g = given{c: c, p: p}
			g.wantError(t, "a configuration that may not be", api.ErrConfig)
			g.wantNoSwitches(t, "a configuration that may not be", api.ErrConfig)
		}
	}
	for _, c := range []api.Config{configOf(1, 1, 3, 1, 0, 1, 1), configOf(16, 16, 8, 1024, 64, 1024, 64)} {
		wantAll(t, "a configuration at its bounds", c, nil, 0, 1, api.Outcome{Count: 1})
		wantAll(t, "a configuration at its bounds", c, api.Programs{pops(1)}, 0, 1, api.Outcome{Answers: []api.Answer{empty}, Count: 1, First: []int{0}})
		wantSwitches(t, "a configuration at its bounds", c, api.Programs{pops(1)}, []int{0}, 0)
	}
}

// P15.1 to P15.4: calls are counted in all programs together, also where there are too many programs, and whether they
// begin or not.
func TestTooManyCalls(t *testing.T) {
	idle := idle()
	for _, p := range []api.Programs{
		{flushes(9)}, {flushes(8), flushes(1)}, {flushes(4), nil, flushes(5)}, {nil, nil, nil, flushes(9)}, {idle[:5], idle[5:9]},
		{flushes(100000)}, slices.Repeat(api.Programs{flushes(1)}, 9), {flushes(8), flushes(8), flushes(8), flushes(8)},
	} {
		g := given{c: threads(3), p: p}
		g.wantError(t, "too many calls", api.ErrLong)
		g.wantNoSwitches(t, "too many calls", api.ErrLong)
		g.switches, g.number, g.picks = -1, -1, []int{-1}
		g.wantError(t, "too many calls", api.ErrLong)
		g.wantNoSwitches(t, "too many calls", api.ErrLong)
	}
}

// P15.1 to P15.4: as many programs as threads may be, and one more may not, also without calls.
func TestTooManyPrograms(t *testing.T) {
	for n := 1; n <= api.MaxThreads; n++ {
		c := configOf(n, 1, 3, 1, 0, 1, 1)
		wantAll(t, "as many as threads", c, make(api.Programs, n), 0, 1, api.Outcome{Count: 1})
		wantSwitches(t, "as many as threads", c, make(api.Programs, n), []int{n - 1}, 0)
		wantExplained(t, "as many as threads", c, make(api.Programs, n), 0, nil)
		wantPicks(t, "as many as threads", c, make(api.Programs, n), 0, 0, nil)
		for _, more := range []int{1, 2, 100000} {
			g := given{c: c, p: make(api.Programs, n+more)}
			g.wantError(t, "too many programs", api.ErrRange)
			g.wantNoSwitches(t, "too many programs", api.ErrRange)
		}
		last := append(make(api.Programs, n), flushes(1))
		given{c: c, p: last}.wantError(t, "a program too many", api.ErrRange)
	}
}

// P15.1, P15.2, P15.4: switches at their bounds.
func TestNoSuchSwitches(t *testing.T) {
	for _, switches := range []int{-1, 9, 10, 1 << 32, -1 << 32, 1<<32 + 1, least, greatest} {
		for _, p := range []api.Programs{nil, pushes(), {flushes(8)}} {
			given{c: example(), p: p, switches: switches}.wantError(t, "switches that may not be", api.ErrRange)
		}
	}
	for switches := range 9 {
		wantAll(t, "one thread", example(), api.Programs{flushes(1)}, switches, 1, api.Outcome{Answers: []api.Answer{done}, Count: 1, First: []int{0}})
	}
}
