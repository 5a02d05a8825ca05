package schedule_test

import (
	"slices"
	"testing"

	"reclaim/api"
	"reclaim/schedule"
)

// handed is what the calls are given, each list within a greater one.
type handed struct {
	c       api.Config
	outer   api.Programs // around the programs' list
	inside  [][]api.Move // around each program
	picks   []int
	order   []int
	falls   []int
	weights []int
	moves   []api.Move
	steps   int
}

func (d *dice) handed() handed {
	c := d.config()
	h := handed{c: c, steps: d.below(60)}
	edge := api.Move{Thread: 66, Op: api.OpFlush}
	var p api.Programs
	for _, program := range d.programs(c, 5) {
		around := within(program, edge)
		h.inside = append(h.inside, around)
		p = append(p, inner(around))
	}
	h.outer = within(p, []api.Move{edge})
	h.picks = within(d.picks(c, h.steps), 66)
	h.order = within(d.order(c), 66)
	h.falls = within(d.falls(h.steps), 66)
	h.weights = within([]int{1, d.below(3), d.below(100)}, 66)
	h.moves = within(drive(c, p, inner(h.picks)...).script, edge)
	return h
}

// copied is the same, in lists of its own.
func (h handed) copied() handed {
	out := h
	out.outer, out.inside = slices.Clone(h.outer), slices.Clone(h.inside)
	for i := range out.inside {
		out.inside[i] = slices.Clone(h.inside[i])
		out.outer[i+1] = inner(out.inside[i])
	}
	out.picks, out.order, out.falls = slices.Clone(h.picks), slices.Clone(h.order), slices.Clone(h.falls)
	out.weights, out.moves = slices.Clone(h.weights), slices.Clone(h.moves)
	return out
}

func (h handed) same(o handed) bool {
	return slices.EqualFunc(h.outer, o.outer, slices.Equal) && slices.EqualFunc(h.inside, o.inside, slices.Equal) &&
		slices.Equal(h.picks, o.picks) && slices.Equal(h.order, o.order) && slices.Equal(h.falls, o.falls) &&
		slices.Equal(h.weights, o.weights) && slices.Equal(h.moves, o.moves)
}

func (h handed) spoil() {
	for _, program := range h.inside {
		fill(program, api.Move{Thread: 55, Op: api.OpPop})
	}
	fill(h.outer, flushes(3))
	fill(h.picks, 0)
	fill(h.order, 0)
	fill(h.falls, 0)
	fill(h.weights, 0)
	fill(h.moves, api.Move{Op: api.OpTake})
}

// told is all that is answered.
type told struct {
	plans []answer
	round []int
	seed  []int
	steps int
	run   api.Run
}

func (h handed) tell() told {
	p := inner(h.outer)
	var x told
	x.plans = []answer{drive(h.c, p, inner(h.picks)...), fair(h.c, p, h.steps), priority(h.c, p, inner(h.order), inner(h.falls), h.steps)}
	x.round, _ = schedule.Round(h.c.Threads, h.steps)
	x.seed, _ = schedule.Seeded(uint64(h.steps), inner(h.weights), h.steps)
	x.steps, x.run, _ = schedule.Alone(h.c, inner(h.moves), 0, 30)
	return x
}

func (x told) same(y told) bool {
	return slices.EqualFunc(x.plans, y.plans, answer.same) && slices.Equal(x.round, y.round) && slices.Equal(x.seed, y.seed) &&
		x.steps == y.steps && sameRun(x.run, y.run)
}

func (x told) spoil() {
	for _, a := range x.plans {
		a.fill()
	}
	fill(x.round, 44)
	fill(x.seed, 44)
	fillRun(x.run)
}

// P6: what is handed in stays as it was, its spare room too, and is not kept; what is written into an answer, its
// spare room too, is seen neither there nor in another answer.
func TestSharesNothing(t *testing.T) {
	d := dice(51)
	for range 400 {
		h := d.handed()
		was := h.copied()
		first, second := h.tell(), h.tell()
		if !h.same(was) {
			t.Fatalf("%+v has become %+v", was, h)
		}
		if !first.same(second) {
			t.Fatalf("of %+v: %+v, then %+v", h, first, second)
		}
		first.spoil()
		if !h.same(was) {
			t.Fatalf("an answer is part of what was handed in: %+v", h)
		}
		third := h.tell()
		h.spoil()
		if !second.same(third) || !third.same(was.tell()) {
			t.Fatalf("two answers share, or what was handed in is kept: %+v, %+v", second, third)
		}
	}
}

// P6: the same is answered whatever was asked between, and however the lists lie.
func TestSameAgain(t *testing.T) {
	d := dice(52)
	for range 200 {
		h, other := d.handed(), d.handed()
		first := h.tell()
		other.tell()
		if again := h.copied().tell(); !first.same(again) {
			t.Fatalf("%+v, then %+v", first, again)
		}
	}
}

// P6: programs that are one list, or pieces of one, are those that each of them tells.
func TestProgramsThatShare(t *testing.T) {
	calls := []api.Move{register(0), push(0, 1), {Op: api.OpPop}}
	one := api.Programs{calls, calls[:2], calls[1:]}
	other := api.Programs{slices.Clone(calls), slices.Clone(calls[:2]), slices.Clone(calls[1:])}
	picks, _ := schedule.Round(3, 100)
	c := threads(3)
	if !drive(c, one, picks...).same(drive(c, other, picks...)) || !fair(c, one, 100).same(fair(c, other, 100)) ||
		!priority(c, one, []int{2, 1, 0}, picks, 100).same(priority(c, other, []int{2, 1, 0}, picks, 100)) {
		t.Errorf("programs that share are others")
	}
	same := []int{1, 0} // an order and falls that are one list
	if !priority(example(), programs(), same, same, 50).same(priority(example(), programs(), []int{1, 0}, []int{1, 0}, 50)) {
		t.Errorf("an order and falls that share are others")
	}
}

// P7: nil and empty lists are the same.
func TestNilAndEmpty(t *testing.T) {
	c := example()
	for _, p := range []api.Programs{nil, {}, {nil, nil}, {{}, {}}} {
		drive(c, p).want(t, "no picks", c, nil)
		drive(c, p, []int{}...).want(t, "no picks", c, nil)
		fair(c, p, 9).want(t, "no calls", c, nil)
		priority(c, p, []int{0, 1}, nil, 9).want(t, "no falls", c, nil)
		priority(c, p, []int{0, 1}, []int{}, 9).want(t, "no falls", c, nil)
	}
	priority(c, nil, nil, nil, 9).wantNone(t, "no order", api.ErrPlan)
	priority(c, nil, []int{}, nil, 9).wantNone(t, "no order", api.ErrPlan)
	wantSeeded(t, 3, nil, 9, api.ErrRange)
	wantSeeded(t, 3, []int{}, 9, api.ErrRange)
	wantAlone(t, "no moves", c, []api.Move{}, 0, 9, 0)
}

// numbers are those that calls are likely to go wrong at.
var numbers = []int{
	least, least + 1, -1 << 32, -65537, -2, -1, 0, 1, 2, 3, 4, 15, 16, 17, 65535, 65536, 65537, 1 << 32, greatest - 1, greatest,
}

// any is one of all numbers, or mostly one of the small ones.
func (d *dice) any() int {
	if d.often(8) {
		return numbers[6+d.below(4)]
	}
	return numbers[d.below(len(numbers))]
}

// anyOf is a list of any numbers.
func (d *dice) anyOf(most int) []int {
	l := make([]int, d.below(most+1))
	for i := range l {
		l[i] = d.any()
	}
	return l
}

// wanted is the error of what a call is given: the first one that there is.
func wanted(config, long, plan, outOfRange bool) api.Errno {
	switch {
	case config:
		return api.ErrConfig
	case long:
		return api.ErrLong
	case plan:
		return api.ErrPlan
	case outOfRange:
		return api.ErrRange
	}
	return api.OK
}

func mayBe(c api.Config) bool {
	in := func(n, least, most int) bool { return n >= least && n <= most }
	return in(c.Threads, 1, 16) && in(c.Records, 1, 16) && in(c.Hazards, 3, 8) && in(c.Retire, 1, 1024) &&
		in(c.Cache, 0, 64) && in(c.Slots, 1, 1024) && in(c.Buckets, 1, 64)
}

// P5, P8: any numbers are answered, with the error that the chapter's words tell, or without one.
func TestAnyNumbers(t *testing.T) {
	d := dice(53)
	met := map[api.Errno]int{}
	for range 6000 {
		c := configOf(2, 2, 3, 1, 0, 4, 1)
		if d.often(2) {
			c = configOf(d.any(), d.any(), 3+d.any(), d.any(), d.any(), d.any(), d.any())
		}
		p := make(api.Programs, d.below(4))
		for i := range p {
			for range d.below(5) {
				p[i] = append(p[i], api.Move{Thread: d.any(), Op: api.Op(d.any() * (1 + d.below(21))), Arg: d.any(), Data: d.any()})
			}
		}
		order := [][]int{{0, 1}, {1, 0}, d.anyOf(3)}[d.below(3)]
		picks, falls, steps, thread := d.anyOf(30), d.anyOf(9), d.any(), d.any()
		bad, plan := !mayBe(c), len(p) > c.Threads
		isOrder := slices.Equal(order, []int{0, 1}) || slices.Equal(order, []int{1, 0})
		if !bad && c.Threads != 2 {
			isOrder = c.Threads == len(order)
			for i := range order {
				isOrder = isOrder && slices.Contains(order, i)
			}
		}
		for what, x := range map[string]struct{ got, want api.Errno }{
			"Drive":    {drive(c, p, picks...).e, wanted(bad, false, plan, false)},
			"Fair":     {fair(c, p, steps).e, wanted(bad, steps > api.MaxMoves, plan, steps < 0)},
			"Priority": {priority(c, p, order, falls, steps).e, wanted(bad, steps > api.MaxMoves, plan || !isOrder, steps < 0)},
			"Alone":    {aloneErrno(c, p, thread, steps), wanted(bad, steps > api.MaxMoves-len(slices.Concat(p...)), false, steps < 0 || thread < 0 || thread >= c.Threads)},
			"Round":    {roundErrno(thread, steps), wanted(false, steps > api.MaxMoves, false, steps < 0 || thread < 1 || thread > api.MaxThreads)},
			"Seeded":   {seededErrno(picks, steps), wanted(false, steps > api.MaxMoves || len(picks) > api.MaxThreads, false, steps < 0 || !areWeights(picks))},
		} {
			if met[x.got]++; x.got != x.want {
				t.Fatalf("%s: %d, not %d: %+v, %v, %v, %v, %v, %d, %d", what, x.got, x.want, c, p, order, picks, falls, steps, thread)
			}
		}
	}
	for _, e := range []api.Errno{api.OK, api.ErrConfig, api.ErrLong, api.ErrPlan, api.ErrRange} {
		if met[e] < 500 {
			t.Errorf("only %d of the error %d", met[e], e)
		}
	}
}

func aloneErrno(c api.Config, p api.Programs, thread, steps int) api.Errno {
	_, _, e := schedule.Alone(c, slices.Concat(p...), thread, steps)
	return e
}

func roundErrno(threads, steps int) api.Errno {
	_, e := schedule.Round(threads, steps)
	return e
}

func seededErrno(weights []int, steps int) api.Errno {
	_, e := schedule.Seeded(uint64(steps), weights, steps)
	return e
}

func areWeights(l []int) bool {
	positive := slices.ContainsFunc(l, func(w int) bool { return w > 0 })
	return positive && !slices.ContainsFunc(l, func(w int) bool { return w < 0 || w > api.MaxMoves })
}
