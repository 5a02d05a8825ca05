package schedule_test

import (
	"slices"
	"testing"

	"reclaim/api"
)

// P14.6: three threads of two calls, each of one pick, in the order 2, 0, 1; worked by hand.
func TestPriorityFalls(t *testing.T) {
	c := threads(3)
	p := api.Programs{flushes(2), flushes(2), flushes(2)}
	all := make([]int, api.MaxMoves)
	for i := range all {
		all[i] = api.MaxMoves - i
	}
	for _, x := range []struct {
		what  string
		falls []int
		want  []int
	}{
		{"none", nil, []int{2, 2, 0, 0, 1, 1}},
		{"none that is a pick's", []int{-1, 6, 7, least, greatest, 1 << 32}, []int{2, 2, 0, 0, 1, 1}},
		{"at the first pick", []int{0}, []int{0, 0, 1, 1, 2, 2}},
		{"at the first pick, told twice", []int{0, 0, 0}, []int{0, 0, 1, 1, 2, 2}},
		{"at the second", []int{1}, []int{2, 0, 0, 1, 1, 2}},
		{"at the third: the first in the order has nothing to do", []int{2}, []int{2, 2, 1, 1, 0, 0}},
		{"at the last pick, of the only one", []int{5}, []int{2, 2, 0, 0, 1, 1}},
		{"at the last but one, of the only one", []int{4}, []int{2, 2, 0, 0, 1, 1}},
		{"at two", []int{0, 1}, []int{0, 1, 1, 2, 2, 0}},
		{"at two, not rising", []int{1, 0}, []int{0, 1, 1, 2, 2, 0}},
		{"at two others", []int{2, 1}, []int{2, 0, 1, 1, 2, 0}},
		{"at two, each told twice", []int{1, 2, 1, 2}, []int{2, 0, 1, 1, 2, 0}},
		{"at all", []int{5, 4, 3, 2, 1, 0}, []int{0, 1, 2, 0, 2, 1}},
		{"at all but the first, as many as may be", all, []int{2, 0, 1, 2, 1, 0}},
	} {
		for _, steps := range []int{6, 7, 1000, api.MaxMoves} {
			priority(c, p, []int{2, 0, 1}, x.falls, steps).want(t, x.what, c, flushed(x.want...))
		}
		for steps := range 6 {
			priority(c, p, []int{2, 0, 1}, x.falls, steps).want(t, x.what+", cut", c, flushed(x.want[:steps]...))
		}
	}
}

// P14.6: a fall takes a thread out of its call, and one that is alone stays in it.
func TestPriorityFallsWithin(t *testing.T) {
	c := example()
	// Thread 1 has read that nobody has the first record; then its swap fails, and it takes the second one.
	one := slices.Concat(with(register(1), 1), with(register(0), 2), with(push(0, 1), 7), steps(1, 3))
	priority(c, programs(), []int{1, 0}, []int{1}, 1000).want(t, "within a call", c, one)
	alone := api.Programs{nil, {register(0), push(0, 1)}}
	want := slices.Concat(with(register(1), 2), with(push(1, 1), 7))
	for _, falls := range [][]int{nil, {0}, {1}, {3}, {8}, {0, 1, 2, 3, 4, 5, 6, 7, 8, 9}} {
		for _, order := range [][]int{{0, 1}, {1, 0}} {
			priority(c, alone, order, falls, 9).want(t, "the only one", c, want)
		}
	}
}

// P14.6: an order of all threads, also of those without a program; all orders of three threads.
func TestPriorityOrders(t *testing.T) {
	c := threads(3)
	for _, o := range [][]int{{0, 1, 2}, {0, 2, 1}, {1, 0, 2}, {1, 2, 0}, {2, 0, 1}, {2, 1, 0}} {
		p := api.Programs{flushes(1), flushes(1), flushes(1)}
		priority(c, p, o, nil, 10).want(t, "an order", c, flushed(o...))
		priority(c, p[:0], o, nil, 10).want(t, "no programs", c, nil)
		others := slices.DeleteFunc(slices.Clone(o), func(thread int) bool { return thread == 1 })
		priority(c, api.Programs{flushes(1), nil, flushes(1)}, o, nil, 10).want(t, "one without calls", c, flushed(others...))
	}
	for _, o := range [][]int{
		nil, {}, {0}, {0, 1}, {2, 1}, {0, 1, 2, 0}, {0, 1, 2, 3}, {-1, 0, 1, 2}, {0, 1, 2, 2}, {0, 0, 1}, {0, 1, 1}, {2, 2, 2},
		{0, 1, 3}, {1, 2, 3}, {-1, 0, 1}, {0, 1, 1<<32 + 2}, {least, 1, 2}, {0, 1, greatest}, make([]int, api.MaxMoves+1),
	} {
		for _, steps := range []int{0, 5, -1, least} {
			priority(c, programs(), o, nil, steps).wantNone(t, "no order", api.ErrPlan)
			priority(c, nil, o, []int{0}, steps).wantNone(t, "no order", api.ErrPlan)
		}
		priority(c, programs(), o, nil, api.MaxMoves+1).wantNone(t, "no order, too many steps", api.ErrLong)
	}
	one := configOf(1, 1, 3, 1, 0, 1, 1)
	priority(one, api.Programs{flushes(2)}, []int{0}, []int{0, 1}, 5).want(t, "one thread", one, flushed(0, 0))
	priority(one, nil, []int{1}, nil, 5).wantNone(t, "one thread", api.ErrPlan)
}

// P14.6: each error alone, and the first of several.
func TestPriorityErrors(t *testing.T) {
	ask := func(g given) answer { return priority(g.c, g.p, g.order, g.falls, g.steps) }
	if a := ask(goodGiven()); a.e != api.OK {
		t.Errorf("%d", a.e)
	}
	for _, faults := range [][]fault[given]{
		{badConfig, longCalls, longFalls, longSteps, badPrograms, badOrder},
		{badConfig, longFalls, longCalls, badOrder, badPrograms, fewSteps},
	} {
		eachFaults(goodGiven, faults, func(what string, g given, e api.Errno) { ask(g).wantNone(t, what, e) })
	}
	falls := make([]int, api.MaxMoves)
	priority(threads(1), api.Programs{flushes(2)}, []int{0}, falls, 5).want(t, "as many falls as may be", threads(1), flushed(0, 0))
	for _, steps := range []int{api.MaxMoves + 1, 1 << 32, greatest} {
		priority(example(), programs(), []int{0, 1}, nil, steps).wantNone(t, "too many steps", api.ErrLong)
	}
	for _, steps := range []int{-1, -1 << 32, least} {
		priority(example(), programs(), []int{0, 1}, nil, steps).wantNone(t, "steps below 0", api.ErrRange)
	}
}
