package schedule_test

import (
	"slices"
	"testing"

	"reclaim/api"
	"reclaim/pool"
	"reclaim/schedule"
)

const (
	least    = -1 << 63
	greatest = 1<<63 - 1
)

// Configurations.

func configOf(threads, records, hazards, retire, cache, slots, buckets int) api.Config {
	return api.Config{Threads: threads, Records: records, Hazards: hazards, Retire: retire, Cache: cache, Slots: slots, Buckets: buckets}
}

// example is the configuration of the chapter's examples.
func example() api.Config { return threads(2) }

func threads(n int) api.Config { return configOf(n, n, 3, 1, 0, 4, 1) }

// badConfigs has, for each number, configurations in which just that one is out of its limits.
func badConfigs() []api.Config {
	out := []api.Config{{}}
	limits := [7][2]int{{1, 16}, {1, 16}, {3, 8}, {1, 1024}, {0, 64}, {1, 1024}, {1, 64}}
	for i, limit := range limits {
		for _, n := range []int{limit[0] - 1, limit[1] + 1, least, greatest, 1<<32 + limit[0]} {
			l := [7]int{2, 2, 3, 1, 0, 4, 1}
			l[i] = n
			out = append(out, configOf(l[0], l[1], l[2], l[3], l[4], l[5], l[6]))
		}
	}
	return out
}

// Moves and programs.

func move(thread int, op api.Op, arg int) api.Move {
	return api.Move{Thread: thread, Op: op, Arg: arg}
}

func step(thread int) api.Move { return move(thread, api.OpStep, 0) }

func register(thread int) api.Move { return move(thread, api.OpRegister, 0) }

func push(thread, arg int) api.Move { return move(thread, api.OpPush, arg) }

// steps is so many steps of a thread.
func steps(thread, count int) []api.Move { return slices.Repeat([]api.Move{step(thread)}, count) }

// with is a move with steps of its thread behind it.
func with(mv api.Move, count int) []api.Move {
	return append([]api.Move{mv}, steps(mv.Thread, count)...)
}

// flushes is so many calls that need no access: each ends in its first step. Pops of a thread without a record are
// refused.
func flushes(count int) []api.Move { return slices.Repeat([]api.Move{{Op: api.OpFlush}}, count) }

func pops(count int) []api.Move { return slices.Repeat([]api.Move{{Op: api.OpPop}}, count) }

// programs are those of the chapter's examples.
func programs() api.Programs { return api.Programs{{register(0), push(0, 1)}, {register(0)}} }

// Asking.

func sameRun(a, b api.Run) bool {
	return slices.Equal(a.Calls, b.Calls) && slices.Equal(a.Trace, b.Trace) && slices.Equal(a.Shifts, b.Shifts) && slices.Equal(a.Words, b.Words)
}

// answer is what Drive, Fair and Priority answer.
type answer struct {
	script []api.Move
	run    api.Run
	e      api.Errno
}

func drive(c api.Config, p api.Programs, picks ...int) answer {
	m, r, e := schedule.Drive(c, p, picks)
	return answer{m, r, e}
}

func fair(c api.Config, p api.Programs, steps int) answer {
	m, r, e := schedule.Fair(c, p, steps)
	return answer{m, r, e}
}

func priority(c api.Config, p api.Programs, order, falls []int, steps int) answer {
	m, r, e := schedule.Priority(c, p, order, falls, steps)
	return answer{m, r, e}
}

func (a answer) same(b answer) bool {
	return slices.Equal(a.script, b.script) && sameRun(a.run, b.run) && a.e == b.e
}

// want asks for a script, with the run that pool.Play tells of it.
func (a answer) want(t *testing.T, what string, c api.Config, script []api.Move) {
	t.Helper()
	if a.e != api.OK || !slices.Equal(a.script, script) {
		t.Errorf("%s: the script %v, %d, not\n%v", what, a.script, a.e, script)
		return
	}
	if r, e := pool.Play(c, script); e != api.OK || !sameRun(a.run, r) {
		t.Errorf("%s: of %v the run\n%+v, not\n%+v, %d", what, script, a.run, r, e)
	}
}

// wantNone asks for an error, with nothing beside it.
func (a answer) wantNone(t *testing.T, what string, e api.Errno) {
	t.Helper()
	if a.e != e || len(a.script) != 0 || !sameRun(a.run, api.Run{}) {
		t.Errorf("%s: %d moves, %d calls, %d words, %d, not %d", what, len(a.script), len(a.run.Calls), len(a.run.Words), a.e, e)
	}
}

// fault is something that is wrong with what a call is given; spoil makes it so.
type fault[T any] struct {
	what  string
	e     api.Errno
	spoil func(given *T)
}

// eachFaults asks with each set of some faults, which stand in the order in which they are to be told: the first
// one's error must be answered, whatever else is wrong.
func eachFaults[T any](fresh func() T, faults []fault[T], ask func(what string, given T, e api.Errno)) {
	for set := 1; set < 1<<len(faults); set++ {
		given, what, e := fresh(), "", api.OK
		for i, f := range faults {
			if set>>i&1 == 0 {
				continue
			}
			f.spoil(&given)
			if what += f.what + "; "; e == api.OK {
				e = f.e
			}
		}
		ask(what, given, e)
	}
}

// Lists that share.

// within is a list in the midst of a greater one, with edges around it.
func within[T any](values []T, edge T) []T {
	return append(append([]T{edge}, values...), edge, edge, edge, edge)
}

// inner is the list within, with all behind it as its spare room.
func inner[T any](around []T) []T { return around[1 : len(around)-4] }

// fill writes one thing into all of a list, its spare room too.
func fill[T any](values []T, with T) {
	for i := range values[:cap(values)] {
		values[:cap(values)][i] = with
	}
}

func fillRun(r api.Run) {
	fill(r.Calls, api.Call{Thread: 77})
	fill(r.Trace, api.Access{Move: 77})
	fill(r.Shifts, api.Shift{Move: 77})
	fill(r.Words, 77)
}

func (a answer) fill() {
	fill(a.script, api.Move{Thread: 77})
	fillRun(a.run)
}
