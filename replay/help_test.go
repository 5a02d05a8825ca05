package replay_test

import (
	"slices"
	"testing"

	"reclaim/api"
	"reclaim/pool"
	"reclaim/replay"
)

const (
	least    = -1 << 63
	greatest = 1<<63 - 1
)

// Configurations.

func configOf(threads, records, hazards, retire, cache, slots, buckets int) api.Config {
	return api.Config{Threads: threads, Records: records, Hazards: hazards, Retire: retire, Cache: cache, Slots: slots, Buckets: buckets}
}

// example is the configuration of the chapter's examples. Its words: top 2, active 7, hazards 8 to 10.
func example() api.Config { return configOf(1, 1, 3, 1, 0, 3, 1) }

func threads(n int) api.Config { return configOf(n, n, 3, 1, 0, 6, 1) }

// badConfigs has, for each number, configurations in which just that one is out of its limits.
func badConfigs() []api.Config {
	out := []api.Config{{}}
	limits := [7][2]int{{1, 16}, {1, 16}, {3, 8}, {1, 1024}, {0, 64}, {1, 1024}, {1, 64}}
	for i, limit := range limits {
		for _, n := range []int{limit[0] - 1, limit[1] + 1, least, greatest, 1<<32 + limit[0]} {
			l := [7]int{2, 2, 3, 1, 0, 4, 1}
			l[i] = n
			out = append(out, configOf(l[0], l[1], l[2], l[3], l[4], l[5], l[6]))
		}
	}
	return out
}

// Moves.

func move(thread int, op api.Op, arg int) api.Move {
	return api.Move{Thread: thread, Op: op, Arg: arg}
}

func step(thread int) api.Move { return move(thread, api.OpStep, 0) }

func register(thread int) api.Move { return move(thread, api.OpRegister, 0) }

func push(thread, arg int) api.Move { return move(thread, api.OpPush, arg) }

func pop(thread int) api.Move { return move(thread, api.OpPop, 0) }

// flush is a call that, of an empty cache, ends in its first step without an access.
func flush(thread int) api.Move { return move(thread, api.OpFlush, 0) }

// with is a move with steps of its thread behind it.
func with(mv api.Move, steps int) []api.Move {
	return append([]api.Move{mv}, slices.Repeat([]api.Move{step(mv.Thread)}, steps)...)
}

// registers lets each thread of a configuration take a record.
func registers(c api.Config) []api.Move {
	var moves []api.Move
	for thread := range c.Threads {
		moves = append(moves, with(register(thread), 2*c.Records)...)
	}
	return moves
}

// idles is so many moves that do nothing.
func idles(count int) []api.Move { return slices.Repeat([]api.Move{step(0)}, count) }

// Answers.

var (
	none  = api.Answer{}
	done  = api.Answer{Kind: api.AnswerDone}
	empty = api.Answer{Kind: api.AnswerEmpty}
	full  = api.Answer{Kind: api.AnswerFull}
	yes   = api.Answer{Kind: api.AnswerYes}
	no    = api.Answer{Kind: api.AnswerNo}
)

func value(v int) api.Answer { return api.Answer{Kind: api.AnswerValue, Value: v} }

// Asking.

func sameRun(a, b api.Run) bool {
	return slices.Equal(a.Calls, b.Calls) && slices.Equal(a.Trace, b.Trace) && slices.Equal(a.Shifts, b.Shifts) && slices.Equal(a.Words, b.Words)
}

func sameRuns(a, b []api.Run) bool { return slices.EqualFunc(a, b, sameRun) }

// plain is the run that pool.Play tells of a script that may be.
func plain(t *testing.T, c api.Config, moves []api.Move) api.Run {
	t.Helper()
	run, e := pool.Play(c, moves)
	if e != api.OK {
		t.Fatalf("pool.Play of %d moves: %d", len(moves), e)
	}
	return run
}

// plains are the runs that pool.Play tells of scripts.
func plains(t *testing.T, c api.Config, scripts [][]api.Move) []api.Run {
	t.Helper()
	var runs []api.Run
	for _, moves := range scripts {
		runs = append(runs, plain(t, c, moves))
	}
	return runs
}

// wantPlay asks for a run.
func wantPlay(t *testing.T, what string, c api.Config, moves []api.Move, want api.Run) {
	t.Helper()
	if run, e := replay.Play(c, moves); e != api.OK || !sameRun(run, want) {
		t.Errorf("%s: the run\n%+v, %d, not\n%+v", what, brief(run), e, brief(want))
	}
}

// wantBatch asks for runs.
func wantBatch(t *testing.T, what string, c api.Config, scripts [][]api.Move, workers int, want []api.Run) {
	t.Helper()
	runs, e := replay.Batch(c, scripts, workers)
	if e != api.OK || len(runs) != len(want) {
		t.Errorf("%s: %d runs of %d scripts by %d workers, %d", what, len(runs), len(scripts), workers, e)
		return
	}
	for i := range runs {
		if !sameRun(runs[i], want[i]) {
			t.Errorf("%s: by %d workers run %d\n%+v, not\n%+v", what, workers, i, brief(runs[i]), brief(want[i]))
		}
	}
}

// wantUntil asks for a number of moves, and for the run that pool.Play tells of so many.
func wantUntil(t *testing.T, what string, c api.Config, moves []api.Move, a api.Answer, want int) {
	t.Helper()
	run, n, e := replay.Until(c, moves, a)
	if e != api.OK || n != want {
		t.Errorf("%s: %d of %d moves up to %+v, %d, not %d", what, n, len(moves), a, e, want)
		return
	}
	if whole := plain(t, c, moves[:want]); !sameRun(run, whole) {
		t.Errorf("%s: up to %+v the run\n%+v, not\n%+v", what, a, brief(run), brief(whole))
	}
}

// brief is a run that is short enough to be printed.
func brief(r api.Run) api.Run {
	return api.Run{Calls: r.Calls[:min(len(r.Calls), 9)], Trace: r.Trace[:min(len(r.Trace), 30)], Shifts: r.Shifts[:min(len(r.Shifts), 9)], Words: r.Words[:min(len(r.Words), 40)]}
}

// given is what the calls are given.
type given struct {
	c       api.Config
	scripts [][]api.Move // of Play and Until the first one
	workers int
	a       api.Answer
}

// wantNoRun asks Play and Until for an error, with nothing beside it.
func (g given) wantNoRun(t *testing.T, what string, e api.Errno) {
	t.Helper()
	if run, got := replay.Play(g.c, g.scripts[0]); got != e || !sameRun(run, api.Run{}) {
		t.Errorf("Play: %s: %+v, %d, not %d", what, brief(run), got, e)
	}
	if run, n, got := replay.Until(g.c, g.scripts[0], g.a); got != e || n != 0 || !sameRun(run, api.Run{}) {
		t.Errorf("Until: %s: %+v, %d, %d, not %d", what, brief(run), n, got, e)
	}
}

// wantNoRuns asks Batch for an error, with nothing beside it.
func (g given) wantNoRuns(t *testing.T, what string, e api.Errno) {
	t.Helper()
	if runs, got := replay.Batch(g.c, g.scripts, g.workers); got != e || len(runs) != 0 {
		t.Errorf("Batch: %s: %d runs, %d, not %d", what, len(runs), got, e)
	}
}

// fault is something that is wrong with what a call is given; spoil makes it so.
type fault struct {
	what  string
	e     api.Errno
	spoil func(g *given)
}

// eachFaults asks with each set of some faults, which stand in the order in which they are to be told: the first
// one's error must be answered, whatever else is wrong.
func eachFaults(fresh func() given, faults []fault, ask func(what string, g given, e api.Errno)) {
	for set := 1; set < 1<<len(faults); set++ {
		g, what, e := fresh(), "", api.OK
		for i, f := range faults {
			if set>>i&1 == 0 {
				continue
			}
			f.spoil(&g)
			if what += f.what + "; "; e == api.OK {
				e = f.e
			}
		}
		ask(what, g, e)
	}
}

// Lists that share.

// within is a list in the midst of a greater one, with edges around it.
func within[T any](values []T, edge T) []T {
	return append(append([]T{edge}, values...), edge, edge, edge, edge)
}

// inner is the list within, with all behind it as its spare room.
func inner[T any](around []T) []T { return around[1 : len(around)-4] }

// fill writes one thing into all of a list, its spare room too.
func fill[T any](values []T, with T) {
	for i := range values[:cap(values)] {
		values[:cap(values)][i] = with
	}
}

func fillRun(r api.Run) {
	fill(r.Calls, api.Call{Thread: 77})
	fill(r.Trace, api.Access{Move: 77})
	fill(r.Shifts, api.Shift{Move: 77})
	fill(r.Words, 77)
}
