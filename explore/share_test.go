package explore_test

import (
	"slices"
	"testing"

	"reclaim/api"
	"reclaim/explore"
	"reclaim/model"
)

// handed is what the calls are given, each list within a greater one.
type handed struct {
	c        api.Config
	outer    api.Programs // around the programs' list
	inside   [][]api.Move // around each program
	picks    []int
	switches int
	number   int
}

func (d *dice) handed() handed {
	c := d.config()
	h := handed{c: c, switches: d.below(2), number: d.below(3)}
	edge := api.Move{Thread: 66, Op: api.OpFlush}
	var p api.Programs
	for _, program := range d.programs(c, 4) {
		around := within(program, edge)
		h.inside = append(h.inside, around)
		p = append(p, inner(around))
	}
	h.outer = within(p, []api.Move{edge})
	h.picks = within(d.picks(p, d.below(30)), 66)
	return h
}

// copied is the same, in lists of its own.
func (h handed) copied() handed {
	out := h
	out.outer, out.inside = slices.Clone(h.outer), slices.Clone(h.inside)
	for i := range out.inside {
		out.inside[i] = slices.Clone(h.inside[i])
		out.outer[i+1] = inner(out.inside[i])
	}
	out.picks = slices.Clone(h.picks)
	return out
}

func (h handed) same(o handed) bool {
	return slices.EqualFunc(h.outer, o.outer, slices.Equal) && slices.EqualFunc(h.inside, o.inside, slices.Equal) && slices.Equal(h.picks, o.picks)
}

func (h handed) spoil() {
	for _, program := range h.inside {
		fill(program, api.Move{Thread: 55, Op: api.OpPop})
	}
	fill(h.outer, flushes(3))
	fill(h.picks, 0)
}

// told is all that is answered.
type told struct {
	outcomes []api.Outcome
	runs     int
	picks    []int
	switches int
	orders   [][]int
}

func (h handed) tell() told {
	p := inner(h.outer)
	var x told
	x.outcomes, x.runs, _ = explore.All(h.c, p, h.switches)
	x.picks, _ = explore.Picks(h.c, p, h.switches, h.number)
	x.switches, _ = explore.Switches(h.c, p, inner(h.picks))
	x.orders, _ = explore.Explained(h.c, p, h.switches)
	return x
}

func (x told) same(y told) bool {
	return sameOutcomes(x.outcomes, y.outcomes) && x.runs == y.runs && slices.Equal(x.picks, y.picks) && x.switches == y.switches &&
		sameLists(x.orders, y.orders)
}

func spoilOutcome(o api.Outcome) {
	fill(o.Answers, api.Answer{Value: 44})
	fill(o.Left.Cell, 44)
	fill(o.Left.Stack, 44)
	fill(o.Left.Queue, 44)
	fill(o.Left.Set, 44)
	fill(o.Left.Table, api.Pair{Key: 44})
	fill(o.First, 44)
}

func (x told) spoil() {
	for _, o := range x.outcomes {
		spoilOutcome(o)
	}
	fill(x.outcomes, api.Outcome{Count: 44})
	fill(x.picks, 44)
	for _, order := range x.orders {
		fill(order, 44)
	}
	fill(x.orders, []int{44})
}

// P6: what is handed in stays as it was, its spare room too, and is not kept; what is written into an answer, its
// spare room too, is seen neither there nor in another answer.
func TestSharesNothing(t *testing.T) {
	d := dice(71)
	for range 200 {
		h := d.handed()
		was := h.copied()
		first, second := h.tell(), h.tell()
		if !h.same(was) {
			t.Fatalf("%+v has become %+v", was, h)
		}
		if !first.same(second) {
			t.Fatalf("of %+v: %+v, then %+v", h, first, second)
		}
		first.spoil()
		if !h.same(was) {
			t.Fatalf("an answer is part of what was handed in: %+v", h)
		}
		third := h.tell()
		h.spoil()
		if !second.same(third) || !third.same(was.tell()) {
			t.Fatalf("two answers share, or what was handed in is kept: %+v, %+v", second, third)
		}
	}
}

// P6: no two lists of one answer share: what is written into one of them is seen in none behind it, nor ahead.
func TestListsOfOneAnswer(t *testing.T) {
	c := threads(3)
	p := api.Programs{{push(1)}, {push(2)}, pops(1)}
	for spoiled := range 4 {
		outcomes, _ := all(t, c, p, 1)
		want, _ := all(t, c, p, 1)
		if len(outcomes) < 4 {
			t.Fatalf("%v", outcomes)
		}
		spoilOutcome(outcomes[spoiled])
		outcomes[spoiled] = want[spoiled]
		if !sameOutcomes(outcomes, want) {
			t.Errorf("outcome %d shares with another: %v", spoiled, outcomes)
		}
		orders := mustExplain(t, c, p, 1)
		others := mustExplain(t, c, p, 1)
		fill(orders[spoiled], 44)
		orders[spoiled] = others[spoiled]
		if !sameLists(orders, others) {
			t.Errorf("order %d shares with another: %v", spoiled, orders)
		}
	}
	outcomes, _ := all(t, c, p, 0) // the lists of one outcome
	first := slices.Clone(outcomes[0].First)
	fill(outcomes[0].Answers, api.Answer{Value: 44})
	if fill(outcomes[0].Left.Stack, 44); !slices.Equal(outcomes[0].First, first) {
		t.Errorf("%v", outcomes[0])
	}
}

// P6: the same is answered whatever was asked between, and however the lists lie.
func TestSameAgain(t *testing.T) {
	d := dice(72)
	for range 100 {
		h, other := d.handed(), d.handed()
		first := h.tell()
		other.tell()
		if again := h.copied().tell(); !first.same(again) {
			t.Fatalf("%+v, then %+v", first, again)
		}
	}
}

// P6: programs that are one list, or pieces of one, are those that each of them tells.
func TestProgramsThatShare(t *testing.T) {
	calls := []api.Move{push(1), call(api.OpPop, 0)}
	one := api.Programs{calls, calls[:1], calls[1:]}
	got, runs := all(t, threads(3), one, 0)
	want, n := all(t, threads(3), copyPrograms(one), 0)
	if runs != n || !sameOutcomes(got, want) {
		t.Errorf("%v, not %v", got, want)
	}
}

// P7: nil and empty lists are the same.
func TestNilAndEmpty(t *testing.T) {
	for _, p := range []api.Programs{{nil, pops(1)}, {{}, pops(1)}} {
		wantAll(t, "one call", example(), p, 1, 1, api.Outcome{Answers: []api.Answer{empty}, Count: 1, First: []int{1}})
		wantSwitches(t, "no picks", example(), p, nil, 0)
		wantSwitches(t, "no picks", example(), p, []int{}, 0)
	}
}

// numbers are those that calls are likely to go wrong at.
var numbers = []int{
	least, least + 1, -1 << 32, -65537, -2, -1, 0, 1, 2, 3, 4, 8, 9, 15, 16, 17, 4095, 4096, 4097, 65535, 65536, 65537, 1 << 32, greatest - 1, greatest,
}

// any is one of all numbers, or mostly one of the small ones.
func (d *dice) any() int {
	if d.often(8) {
		return numbers[6+d.below(4)]
	}
	return numbers[d.below(len(numbers))]
}

// P5, P8: any numbers are answered, with the error that the chapter's words tell, or without one.
func TestAnyNumbers(t *testing.T) {
	d := dice(73)
	met := map[api.Errno]int{}
	for range 2500 {
		c := configOf(2, 2, 3, 1, 0, 4, 1)
		if d.often(2) {
			c = configOf(d.any(), d.any(), 3+d.any(), d.any(), d.any(), d.any(), d.any())
		}
		p := make(api.Programs, d.below(4))
		for i := range p {
			for range d.below(3 + 2*d.below(3)) {
				p[i] = append(p[i], api.Move{Thread: d.any(), Op: api.Op(d.any() * (1 + d.below(21))), Arg: d.any(), Data: d.any()})
			}
		}
		switches, number := d.any(), d.any()
		picks := make([]int, d.below(30))
		for i := range picks {
			picks[i] = []int{0, 1, 0, 1, d.any()}[d.below(5)]
		}
		bad := !mayBe(c)
		long := len(slices.Concat(p...)) > api.MaxSearch
		outside := len(p) > c.Threads
		wantErrno(t, met, "Switches", switchesErrno(c, p, picks), wanted(bad, long, outside || !areIn(picks, len(p))))
		e := wanted(bad, long, outside || switches < 0 || switches > api.MaxSwitch)
		outcomes, runs, got := explore.All(c, p, switches)
		if got == api.ErrBudget && e == api.OK { // how many runs there are is told elsewhere
			e = got
		}
		wantErrno(t, met, "All", got, e)
		wantErrno(t, met, "Explained", explainedErrno(c, p, switches), e)
		if e == api.OK && (number < 0 || number >= runs) {
			e = api.ErrRange
		}
		wantErrno(t, met, "Picks", picksErrno(c, p, switches, number), e)
		if t.Failed() {
			t.Fatalf("%+v, %v, %d, %d, %v: %v", c, p, switches, number, picks, outcomes)
		}
	}
	for _, e := range []api.Errno{api.OK, api.ErrConfig, api.ErrLong, api.ErrRange} {
		if met[e] < 300 {
			t.Errorf("only %d of the error %d", met[e], e)
		}
	}
}

func wantErrno(t *testing.T, met map[api.Errno]int, what string, got, want api.Errno) {
	t.Helper()
	if met[got]++; got != want {
		t.Errorf("%s: %d, not %d", what, got, want)
	}
}

func switchesErrno(c api.Config, p api.Programs, picks []int) api.Errno {
	_, e := explore.Switches(c, p, picks)
	return e
}

func explainedErrno(c api.Config, p api.Programs, switches int) api.Errno {
	_, e := explore.Explained(c, p, switches)
	return e
}

func picksErrno(c api.Config, p api.Programs, switches, number int) api.Errno {
	_, e := explore.Picks(c, p, switches, number)
	return e
}

func areIn(picks []int, n int) bool {
	return !slices.ContainsFunc(picks, func(pick int) bool { return pick < 0 || pick >= n })
}

// wanted is the error of what a call is given: the first one that there is.
func wanted(config, long, outside bool) api.Errno {
	switch {
	case config:
		return api.ErrConfig
	case long:
		return api.ErrLong
	case outside:
		return api.ErrRange
	}
	return api.OK
}

func mayBe(c api.Config) bool {
	in := func(n, least, most int) bool { return n >= least && n <= most }
	return in(c.Threads, 1, 16) && in(c.Records, 1, 16) && in(c.Hazards, 3, 8) && in(c.Retire, 1, 1024) &&
		in(c.Cache, 0, 64) && in(c.Slots, 1, 1024) && in(c.Buckets, 1, 64)
}

// P6: what is told of a run's contents is what its words hold, in lists of its own: two runs with nothing left too.
func TestEmptyContents(t *testing.T) {
	outcomes, _ := all(t, example(), api.Programs{pops(1), {call(api.OpContains, 1)}}, 1)
	if len(outcomes) != 1 || !model.Same(outcomes[0].Left, api.Contents{}) || !slices.Equal(outcomes[0].Answers, []api.Answer{empty, no}) {
		t.Errorf("%v", outcomes)
	}
}
