package schedule_test

import (
	"slices"
	"testing"

	"reclaim/api"
	"reclaim/census"
	"reclaim/pool"
	"reclaim/schedule"
)

// wantAlone asks for so many steps of a thread behind a script.
func wantAlone(t *testing.T, what string, c api.Config, moves []api.Move, thread, most, want int) {
	t.Helper()
	n, r, e := schedule.Alone(c, moves, thread, most)
	whole, _ := pool.Play(c, slices.Concat(moves, steps(thread, want)))
	if n != want || e != api.OK || !sameRun(r, whole) {
		t.Errorf("%s: %d steps, %d, not %d, with\n%+v, not\n%+v", what, n, e, want, r.Calls, whole.Calls)
	}
}

func wantNotAlone(t *testing.T, what string, c api.Config, moves []api.Move, thread, most int, want api.Errno) {
	t.Helper()
	if n, r, e := schedule.Alone(c, moves, thread, most); n != 0 || e != want || !sameRun(r, api.Run{}) {
		t.Errorf("%s: %d steps, %d, not %d", what, n, e, want)
	}
}

// P14.7: an idle thread makes no step: one that has begun nothing, one whose call has ended, one whose call was refused.
func TestAloneIdle(t *testing.T) {
	c := example()
	for _, moves := range [][]api.Move{
		nil, {}, with(register(1), 2), with(register(0), 1), {move(1, api.OpPop, 0)}, {step(1), step(1)},
		{move(1, 999, 0)}, {register(2), register(-1)}, slices.Concat(with(register(1), 2), with(push(1, 5), 7)),
	} {
		for _, most := range []int{0, 1, 10, api.MaxMoves - len(moves)} {
			wantAlone(t, "an idle thread", c, moves, 1, most, 0)
		}
	}
}

// P14.7: a thread within a call makes steps to its end, or as many as there may be.
func TestAloneWithin(t *testing.T) {
	c := example()
	both := slices.Concat(with(register(0), 2), with(register(1), 3))
	for made := range 8 {
		moves := slices.Concat(both, with(push(1, 5), made), with(move(0, api.OpPop, 0), 1))
		for most := range 12 {
			wantAlone(t, "a push", c, moves, 1, most, min(most, 7-made))
		}
		wantAlone(t, "a push", c, moves, 1, api.MaxMoves-len(moves), 7-made)
	}
	moves := slices.Concat(with(register(0), 2), with(register(1), 1)) // the first record is taken
	n, r, _ := schedule.Alone(c, moves, 1, 10)
	if n != 2 || r.Calls[1].End != 6 || r.Calls[1].Answer != (api.Answer{Kind: api.AnswerValue, Value: 1}) {
		t.Errorf("%d, %+v", n, r.Calls)
	}
}

// P14.7: another thread's calls stay as they are, and the thread begins none behind the end of its own.
func TestAloneStops(t *testing.T) {
	moves := []api.Move{register(0), register(1), step(0)}
	n, r, _ := schedule.Alone(example(), moves, 1, 100)
	if n < 2 || len(r.Calls) != 2 || r.Calls[0].End != -1 || r.Calls[1].End != 2+n || len(r.Trace) != 1+n {
		t.Errorf("%d, %+v, %+v", n, r.Calls, r.Trace)
	}
}

// P14.7: moves and steps up to their limits, and together; steps below 0 count as 0 there.
func TestAloneLimits(t *testing.T) {
	c := example()
	most := with(register(1), api.MaxMoves)
	half := append(steps(0, api.MaxMoves/2-1), register(1))
	wantAlone(t, "as many moves as may be", c, most[:api.MaxMoves], 0, 0, 0)
	wantAlone(t, "no room for the step", c, append(steps(0, api.MaxMoves-1), register(1)), 1, 0, 0)
	wantAlone(t, "the last step", c, append(steps(0, api.MaxMoves-2), register(1)), 1, 1, 1)
	wantAlone(t, "both together", c, half, 1, api.MaxMoves/2, 2)
	wantAlone(t, "no moves", c, nil, 1, api.MaxMoves, 0)
	for _, x := range []struct {
		what  string
		moves []api.Move
		steps int
		e     api.Errno
	}{
		{"a move too many", most, 0, api.ErrLong},
		{"a move too many, steps below 0", most, -1, api.ErrLong},
		{"a move too many, the least steps", most, least, api.ErrLong},
		{"one more than may be together", most[:api.MaxMoves], 1, api.ErrLong},
		{"one more than may be together", half, api.MaxMoves/2 + 1, api.ErrLong},
		{"one more than may be together", half[:1], api.MaxMoves, api.ErrLong},
		{"as many moves as may be, steps below 0", most[:api.MaxMoves], -1, api.ErrRange},
		{"as many moves as may be, the least steps", most[:api.MaxMoves], least, api.ErrRange},
		{"a step too many", nil, api.MaxMoves + 1, api.ErrLong},
		{"the most steps", nil, greatest, api.ErrLong},
		{"the most steps, with moves", half, greatest, api.ErrLong},
		{"the most steps, with too many moves", most, greatest, api.ErrLong},
		{"steps below 0", nil, -1, api.ErrRange},
		{"steps below 0", half, least, api.ErrRange},
	} {
		wantNotAlone(t, x.what, c, x.moves, 1, x.steps, x.e)
	}
}

// lone is what Alone is given.
type lone struct {
	c      api.Config
	moves  []api.Move
	thread int
	steps  int
}

// P14.7: each error alone, and the first of several.
func TestAloneErrors(t *testing.T) {
	fresh := func() lone { return lone{example(), with(register(0), 1), 0, 5} }
	wantAlone(t, "no error", fresh().c, fresh().moves, 0, 5, 1)
	config := fault[lone]{"a configuration", api.ErrConfig, func(l *lone) { l.c.Hazards = 2 }}
	moves := fault[lone]{"too many moves", api.ErrLong, func(l *lone) { l.moves = steps(0, api.MaxMoves+1) }}
	many := fault[lone]{"too many steps", api.ErrLong, func(l *lone) { l.steps = api.MaxMoves + 1 }}
	thread := fault[lone]{"no such thread", api.ErrRange, func(l *lone) { l.thread = 2 }}
	below := fault[lone]{"no such thread", api.ErrRange, func(l *lone) { l.thread = -1 }}
	few := fault[lone]{"steps below 0", api.ErrRange, func(l *lone) { l.steps = -1 }}
	for _, faults := range [][]fault[lone]{{config, moves, many, thread}, {config, moves, below, few}} {
		eachFaults(fresh, faults, func(what string, l lone, e api.Errno) {
			wantNotAlone(t, what, l.c, l.moves, l.thread, l.steps, e)
		})
	}
	for _, thread := range []int{-1, 2, 16, 1 << 32, least, greatest} {
		wantNotAlone(t, "no such thread", example(), fresh().moves, thread, 5, api.ErrRange)
	}
	for _, c := range badConfigs() {
		wantNotAlone(t, "a configuration that may not be", c, fresh().moves, 0, 5, api.ErrConfig)
		wantNotAlone(t, "a configuration that may not be", c, nil, -1, greatest, api.ErrConfig)
	}
	wantAlone(t, "the last thread", threads(16), []api.Move{register(15)}, 15, 9, 2)
}

// P14.7: scripts of all kinds, cut anywhere. A thread that is alone ends its call within Solo steps (G5).
func TestAloneChance(t *testing.T) {
	d := dice(31)
	within := 0
	for range 3000 {
		c := d.config()
		p := d.programs(c, 8)
		moves := drive(c, p, d.picks(c, d.below(50))...).script
		for range d.below(4) {
			moves = slices.Insert(moves, d.below(len(moves)+1), api.Move{Thread: d.below(c.Threads+2) - 1, Op: api.Op(d.below(70))})
		}
		solo, _ := census.Solo(c)
		thread, most := d.below(c.Threads), []int{0, 1, 2, 5, 20, solo}[d.below(6)]
		want := 0
		busy := func() bool {
			r, _ := pool.Play(c, slices.Concat(moves, steps(thread, want)))
			return slices.ContainsFunc(r.Calls, func(call api.Call) bool { return call.Thread == thread && call.End == -1 })
		}
		for want < most && busy() {
			want++
		}
		if want > 0 {
			within++
		}
		wantAlone(t, "by chance", c, moves, thread, most, want)
		if most == solo && busy() {
			t.Errorf("thread %d has not ended its call in %d steps", thread, solo)
		}
		if t.Failed() {
			t.FailNow()
		}
	}
	if within < 600 {
		t.Errorf("only %d within a call", within)
	}
}
