package schedule_test

import (
	"slices"
	"testing"

	"reclaim/api"
)

// flushed is the script of picks each of which makes a whole call.
func flushed(picks ...int) []api.Move {
	var script []api.Move
	for _, thread := range picks {
		script = append(script, with(move(thread, api.OpFlush, 0), 1)...)
	}
	return script
}

// P14.5: threads that have nothing to do are left out, from the beginning on or from when they have made their calls.
func TestFairLeavesOut(t *testing.T) {
	c := threads(4)
	for _, x := range []struct {
		p    api.Programs
		want []int
	}{
		{nil, nil},
		{api.Programs{nil, {}, nil, nil}, nil},
		{api.Programs{flushes(2), flushes(2), flushes(2), flushes(2)}, []int{0, 1, 2, 3, 0, 1, 2, 3}},
		{api.Programs{flushes(2), nil, flushes(1)}, []int{0, 2, 0}},
		{api.Programs{nil, flushes(3)}, []int{1, 1, 1}},
		{api.Programs{nil, nil, nil, flushes(2)}, []int{3, 3}},
		{api.Programs{flushes(1), flushes(3), nil, flushes(2)}, []int{0, 1, 3, 1, 3, 1}},
		{api.Programs{flushes(3), flushes(1), flushes(2)}, []int{0, 1, 2, 0, 2, 0}},
	} {
		for _, steps := range []int{len(x.want), len(x.want) + 1, 1000, api.MaxMoves} {
			fair(c, x.p, steps).want(t, "all of them", c, flushed(x.want...))
		}
		for steps := range x.want {
			fair(c, x.p, steps).want(t, "some of them", c, flushed(x.want[:steps]...))
		}
	}
}

// P14.5: a pick of a thread none of whose calls begins is a pick; behind it the thread is left out.
func TestFairIdleCalls(t *testing.T) {
	c := threads(2)
	p := api.Programs{idleCalls(), flushes(2)}
	idle := by(0, idleCalls())
	fair(c, p, 0).want(t, "no pick", c, nil)
	fair(c, p, 1).want(t, "one pick", c, idle)
	fair(c, p, 2).want(t, "two picks", c, slices.Concat(idle, flushed(1)))
	fair(c, p, 3).want(t, "three picks", c, slices.Concat(idle, flushed(1, 1)))
	fair(c, p, 4).want(t, "more than are needed", c, slices.Concat(idle, flushed(1, 1)))
}

// P14.5: with fewer steps than are needed the script is cut behind as many picks.
func TestFairFewerSteps(t *testing.T) {
	picks := []int{0, 1, 0, 1, 0, 1, 0, 1, 0, 0, 0, 0, 0}
	for steps := range picks {
		fair(example(), programs(), steps).want(t, "cut", example(), drive(example(), programs(), picks[:steps]...).script)
	}
	for _, steps := range []int{len(picks), len(picks) + 1, api.MaxMoves} {
		fair(example(), programs(), steps).want(t, "whole", example(), fairExample())
	}
	if last := fair(example(), programs(), len(picks)-1); len(last.script) != len(fairExample())-1 {
		t.Errorf("%d picks are needed for %d moves", len(picks), len(fairExample()))
	}
}

// P14.5: each error alone, and the first of several.
func TestFairErrors(t *testing.T) {
	ask := func(g given) answer { return fair(g.c, g.p, g.steps) }
	if a := ask(goodGiven()); a.e != api.OK {
		t.Errorf("%d", a.e)
	}
	eachFaults(goodGiven, []fault[given]{badConfig, longCalls, longSteps, badPrograms}, func(what string, g given, e api.Errno) {
		ask(g).wantNone(t, what, e)
	})
	eachFaults(goodGiven, []fault[given]{badConfig, longCalls, badPrograms, fewSteps}, func(what string, g given, e api.Errno) {
		ask(g).wantNone(t, what, e)
	})
	for _, steps := range []int{api.MaxMoves + 1, 1 << 32, greatest} {
		fair(example(), programs(), steps).wantNone(t, "too many steps", api.ErrLong)
	}
	for _, steps := range []int{-1, -1 << 32, least} {
		fair(example(), programs(), steps).wantNone(t, "steps below 0", api.ErrRange)
		fair(example(), nil, steps).wantNone(t, "steps below 0", api.ErrRange)
	}
}
