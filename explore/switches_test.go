package explore_test

import (
	"slices"
	"testing"

	"reclaim/api"
	"reclaim/explore"
)

// P15.3: the switches of whole runs, and of such as have not ended.
func TestSwitches(t *testing.T) {
	c, p := example(), api.Programs{{push(1)}, {push(2)}}
	for _, x := range []struct {
		picks []int
		want  int
	}{
		{nil, 0}, {[]int{0}, 0}, {[]int{1}, 0}, {[]int{0, 0}, 0}, {[]int{0, 1}, 1}, {[]int{1, 0}, 1}, {[]int{0, 1, 0}, 2}, {[]int{0, 1, 1, 0}, 2},
		{turns(0, 7), 0}, {turns(0, 7, 1, 1), 0}, {turns(0, 6, 1, 1), 1}, {turns(0, 6, 1, 1, 0, 1), 2}, {turns(0, 6, 1, 1, 0, 1, 1, 6), 2},
		{turns(0, 7, 1, 7), 0}, {turns(1, 7, 0, 7), 0}, {turns(1, 1, 0, 7, 1, 7), 1},
	} {
		wantSwitches(t, "two pushes", c, p, x.picks, x.want)
	}
}

// P15.3: a pick of a thread that has nothing to do is no switch, and is not the one picked last.
func TestSwitchesOfNothing(t *testing.T) {
	c := threads(3)
	p := api.Programs{{push(1)}, pops(1), nil}
	for _, x := range []struct {
		what  string
		picks []int
		want  int
	}{
		{"a thread without calls", []int{2, 2, 0}, 0},
		{"between two picks of one", []int{0, 2, 0, 2, 2, 0}, 0},
		{"behind a switch", []int{0, 1, 1, 0}, 1},
		{"ahead of a switch", []int{0, 2, 1, 2}, 1},
		{"a thread that has ended", []int{1, 0, 1, 0, 1, 0}, 0},
		{"all have ended", slices.Concat(turns(0, 7, 1, 20), []int{0, 1, 2, 0, 1, 2}), 0},
		{"back to one that has ended", slices.Concat(turns(0, 6, 1, 1, 0, 1), []int{1, 0, 1}), 1},
	} {
		wantSwitches(t, x.what, c, p, x.picks, x.want)
	}
	none := api.Programs{{}, nil}
	wantSwitches(t, "no calls", example(), none, []int{0, 1, 0, 1}, 0)
}

// P15.3: a thread whose calls that are left don't begin has something to do, for one pick.
func TestSwitchesOfLeftOut(t *testing.T) {
	p := api.Programs{{call(99, 0), call(api.OpStep, 0)}, {call(api.OpFlush, 0), call(api.OpRegister, 0)}}
	for _, x := range []struct {
		picks []int
		want  int
	}{{[]int{0, 1, 0, 1}, 0}, {[]int{1, 0, 1}, 1}, {[]int{1, 0, 0, 1}, 1}, {[]int{1, 1, 0, 1}, 0}, {[]int{0, 0, 1, 0, 1}, 0}} {
		wantSwitches(t, "calls that don't begin", example(), p, x.picks, x.want)
	}
}

// P15.3: many switches; more of them than a run of All may have.
func TestManySwitches(t *testing.T) {
	p := api.Programs{flushes(4), flushes(4)}
	wantSwitches(t, "in turn", example(), p, []int{0, 1, 0, 1, 0, 1, 0, 1}, 6)
	p = api.Programs{{push(1)}, {push(2)}}
	n, e := explore.Switches(example(), p, slices.Repeat([]int{0, 1}, 50))
	if e != api.OK || n <= api.MaxSwitch {
		t.Errorf("%d, %d", n, e)
	}
}

// P15.3: MaxMoves picks may be, and one more may not.
func TestSwitchesOfManyPicks(t *testing.T) {
	picks := slices.Repeat([]int{0, 1}, api.MaxMoves/2)
	wantSwitches(t, "as many as may be", example(), api.Programs{flushes(2), flushes(2)}, picks, 2)
	wantSwitches(t, "as many as may be", example(), api.Programs{flushes(8), nil}, picks, 0)
	g := given{c: example(), p: pushes(), picks: append(picks, 0)}
	g.wantNoSwitches(t, "one more", api.ErrLong)
	g.picks = append(picks, 2)
	g.wantNoSwitches(t, "one more, which is out of range", api.ErrLong)
	g.picks = append(slices.Clone(picks[:api.MaxMoves-1]), 2)
	g.wantNoSwitches(t, "the last one is out of range", api.ErrRange)
}

// P15.3: picks are of threads that take part, also where the configuration has more.
func TestSwitchesOfNoThread(t *testing.T) {
	g := given{c: threads(4), p: pushes()}
	for _, pick := range []int{2, 3, 4, -1, 16, 1 << 32, -1 << 32, least, greatest} {
		for _, picks := range [][]int{{pick}, {pick, 0}, {0, 1, pick}, append(turns(0, 7, 1, 7), pick)} {
			g.picks = picks
			g.wantNoSwitches(t, "no such thread", api.ErrRange)
		}
	}
	for _, p := range []api.Programs{nil, {}} {
		given{c: threads(4), p: p, picks: []int{0}}.wantNoSwitches(t, "no thread at all", api.ErrRange)
	}
	p := append(make(api.Programs, 15), flushes(2))
	wantSwitches(t, "the last thread", threads(16), p, []int{15, 0, 15, 14}, 0)
}

// P15.3: each error alone, and the first of several.
func TestSwitchesErrors(t *testing.T) {
	fresh := func() given { return given{c: example(), p: pushes(), picks: []int{0, 1}, switches: -1, number: -1} }
	wantSwitches(t, "no error", fresh().c, fresh().p, fresh().picks, 1)
	long := fault{"too many picks", api.ErrLong, func(g *given) { g.picks = make([]int, api.MaxMoves+1) }}
	pick := fault{"no such thread", api.ErrRange, func(g *given) { g.picks = append(g.picks, 99) }}
	low := fault{"no such thread", api.ErrRange, func(g *given) { g.picks = append(g.picks, -1) }}
	for _, faults := range [][]fault{{badConfig, longPrograms, long, manyPrograms, pick}, {badConfig, long, longPrograms, low, manyPrograms}} {
		eachFaults(fresh, faults, func(what string, g given, e api.Errno) { g.wantNoSwitches(t, what, e) })
	}
}
