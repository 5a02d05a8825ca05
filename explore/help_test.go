package explore_test

import (
	"slices"
	"testing"

	"reclaim/api"
	"reclaim/explore"
	"reclaim/model"
)

const (
	least    = -1 << 63
	greatest = 1<<63 - 1
)

// Configurations.

func configOf(threads, records, hazards, retire, cache, slots, buckets int) api.Config {
	return api.Config{Threads: threads, Records: records, Hazards: hazards, Retire: retire, Cache: cache, Slots: slots, Buckets: buckets}
}

// example is the configuration of the chapter's examples.
func example() api.Config { return threads(2) }

func threads(n int) api.Config { return configOf(n, n, 3, 1, 0, 4, 1) }

// badConfigs has, for each number, configurations in which just that one is out of its limits.
func badConfigs() []api.Config {
	out := []api.Config{{}}
	limits := [7][2]int{{1, 16}, {1, 16}, {3, 8}, {1, 1024}, {0, 64}, {1, 1024}, {1, 64}}
	for i, limit := range limits {
		for _, n := range []int{limit[0] - 1, limit[1] + 1, least, greatest, 1<<32 + limit[0]} {
			l := [7]int{2, 2, 3, 1, 0, 4, 1}
			l[i] = n
			out = append(out, configOf(l[0], l[1], l[2], l[3], l[4], l[5], l[6]))
		}
	}
	return out
}

// Calls and programs. An empty stack's pop, and a flush, take one pick each, a push seven.

func call(op api.Op, arg int) api.Move { return api.Move{Op: op, Arg: arg} }

func push(arg int) api.Move { return call(api.OpPush, arg) }

func pops(count int) []api.Move { return slices.Repeat([]api.Move{call(api.OpPop, 0)}, count) }

func flushes(count int) []api.Move { return slices.Repeat([]api.Move{call(api.OpFlush, 0)}, count) }

// pushes are the programs of the first example.
func pushes() api.Programs { return api.Programs{{push(1)}, {push(2)}} }

// idle are calls that don't begin, of a thread that holds a record and no slot.
func idle() []api.Move {
	return []api.Move{
		call(api.OpStep, 0), call(api.OpRegister, 0), call(api.OpLook, 0), call(api.OpBump, 0), call(api.OpGive, 1),
		call(api.OpRead, 3), call(api.OpRead, -1), call(99, 0), call(-1, 0), call(least, 0), call(greatest, 0), call(api.OpPin, 0),
	}
}

// turns is so many picks of each thread, one thread behind the other: thread, count, thread, count and so on.
func turns(counts ...int) []int {
	var picks []int
	for i := 0; i < len(counts); i += 2 {
		picks = append(picks, slices.Repeat([]int{counts[i]}, counts[i+1])...)
	}
	return picks
}

// Answers.

var (
	none  = api.Answer{}
	done  = api.Answer{Kind: api.AnswerDone}
	empty = api.Answer{Kind: api.AnswerEmpty}
	full  = api.Answer{Kind: api.AnswerFull}
	yes   = api.Answer{Kind: api.AnswerYes}
	no    = api.Answer{Kind: api.AnswerNo}
)

func value(v int) api.Answer { return api.Answer{Kind: api.AnswerValue, Value: v} }

func stackOf(values ...int) api.Contents { return api.Contents{Stack: values} }

func sameOutcome(a, b api.Outcome) bool {
	return slices.Equal(a.Answers, b.Answers) && model.Same(a.Left, b.Left) && a.Count == b.Count && slices.Equal(a.First, b.First)
}

func sameOutcomes(a, b []api.Outcome) bool { return slices.EqualFunc(a, b, sameOutcome) }

func sameLists(a, b [][]int) bool { return slices.EqualFunc(a, b, slices.Equal) }

// Asking.

// all is All's answer where there is no error.
func all(t *testing.T, c api.Config, p api.Programs, switches int) ([]api.Outcome, int) {
	t.Helper()
	outcomes, runs, e := explore.All(c, p, switches)
	if e != api.OK {
		t.Errorf("%v with %d switches: %d", p, switches, e)
	}
	return outcomes, runs
}

func wantAll(t *testing.T, what string, c api.Config, p api.Programs, switches int, runs int, want ...api.Outcome) {
	t.Helper()
	if got, n := all(t, c, p, switches); n != runs || !sameOutcomes(got, want) {
		t.Errorf("%s: %d runs, not %d:\n%v, not\n%v", what, n, runs, got, want)
	}
}

func wantPicks(t *testing.T, what string, c api.Config, p api.Programs, switches int, number int, want []int) {
	t.Helper()
	if picks, e := explore.Picks(c, p, switches, number); e != api.OK || !slices.Equal(picks, want) {
		t.Errorf("%s: run %d is %v, %d, not %v", what, number, picks, e, want)
	}
}

func wantSwitches(t *testing.T, what string, c api.Config, p api.Programs, picks []int, want int) {
	t.Helper()
	if n, e := explore.Switches(c, p, picks); e != api.OK || n != want {
		t.Errorf("%s: %d switches, %d, not %d, in %v", what, n, e, want, picks[:min(len(picks), 50)])
	}
}

func wantExplained(t *testing.T, what string, c api.Config, p api.Programs, switches int, want ...[]int) {
	t.Helper()
	if orders, e := explore.Explained(c, p, switches); e != api.OK || !sameLists(orders, want) {
		t.Errorf("%s: %v, %d, not %v", what, orders, e, want)
	}
}

// allPicks are the runs of all numbers, by Picks.
func allPicks(t *testing.T, c api.Config, p api.Programs, switches int, runs int) [][]int {
	t.Helper()
	var out [][]int
	for number := range runs {
		picks, e := explore.Picks(c, p, switches, number)
		if e != api.OK {
			t.Errorf("run %d of %d: %d", number, runs, e)
		}
		out = append(out, picks)
	}
	return out
}

// given is what the calls are given.
type given struct {
	c        api.Config
	p        api.Programs
	switches int
	number   int
	picks    []int
}

// wantError asks each of the calls that make all runs, and Picks with them, for an error with nothing beside it.
func (g given) wantError(t *testing.T, what string, e api.Errno) {
	t.Helper()
	if outcomes, n, got := explore.All(g.c, g.p, g.switches); got != e || n != 0 || len(outcomes) != 0 {
		t.Errorf("All: %s: %d outcomes, %d, %d, not %d", what, len(outcomes), n, got, e)
	}
	if orders, got := explore.Explained(g.c, g.p, g.switches); got != e || len(orders) != 0 {
		t.Errorf("Explained: %s: %v, %d, not %d", what, orders, got, e)
	}
	g.wantNoPicks(t, what, e)
}

func (g given) wantNoPicks(t *testing.T, what string, e api.Errno) {
	t.Helper()
	if picks, got := explore.Picks(g.c, g.p, g.switches, g.number); got != e || len(picks) != 0 {
		t.Errorf("Picks: %s: %v, %d, not %d", what, picks, got, e)
	}
}

func (g given) wantNoSwitches(t *testing.T, what string, e api.Errno) {
	t.Helper()
	if n, got := explore.Switches(g.c, g.p, g.picks); got != e || n != 0 {
		t.Errorf("Switches: %s: %d, %d, not %d", what, n, got, e)
	}
}

// fault is something that is wrong with what a call is given; spoil makes it so.
type fault struct {
	what  string
	e     api.Errno
	spoil func(g *given)
}

// eachFaults asks with each set of some faults, which stand in the order in which they are to be told: the first
// one's error must be answered, whatever else is wrong.
func eachFaults(fresh func() given, faults []fault, ask func(what string, g given, e api.Errno)) {
	for set := 1; set < 1<<len(faults); set++ {
		g, what, e := fresh(), "", api.OK
		for i, f := range faults {
			if set>>i&1 == 0 {
				continue
			}
			f.spoil(&g)
			if what += f.what + "; "; e == api.OK {
				e = f.e
			}
		}
		ask(what, g, e)
	}
}

// Lists that share.

// within is a list in the midst of a greater one, with edges around it.
func within[T any](values []T, edge T) []T {
	return append(append([]T{edge}, values...), edge, edge, edge, edge)
}

// inner is the list within, with all behind it as its spare room.
func inner[T any](around []T) []T { return around[1 : len(around)-4] }

// fill writes one thing into all of a list, its spare room too.
func fill[T any](values []T, with T) {
	for i := range values[:cap(values)] {
		values[:cap(values)][i] = with
	}
}
