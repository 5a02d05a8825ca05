package ring_test

import (
	"slices"
	"testing"

	"reclaim/api"
	"reclaim/ring"
)

// at is the access in that move.
func at(move int, a api.Access) api.Access {
	return withAccess(a, func(a *api.Access) { a.Move = move })
}

func withAccess(a api.Access, change func(a *api.Access)) api.Access {
	change(&a)
	return a
}

func with(c api.Call, change func(c *api.Call)) api.Call {
	change(&c)
	return c
}

// side is one of the two ops, with the address of its counter and a call of it.
type side struct {
	op   api.Op
	addr int
	call api.Call // of thread 1, from move 10 to move 20; its ticket's value is 7
}

func sides() []side {
	puts := api.Call{Thread: 1, Op: api.OpPut, Arg: 7, Data: 8, Begin: 10, End: 20, Point: 13, Answer: done}
	picks := api.Call{Thread: 1, Op: api.OpPick, Arg: 9, Data: 8, Begin: 10, End: 20, Point: 13, Answer: value(7)}
	return []side{{api.OpPut, putsAt, puts}, {api.OpPick, picksAt, picks}}
}

// wantSide asks for the tickets of a run that has calls of one op alone.
func (s side) want(t *testing.T, calls []api.Call, trace []api.Access, tickets ...api.Ticket) {
	t.Helper()
	r := api.Run{Calls: calls, Trace: trace}
	if s.op == api.OpPut {
		wantTickets(t, example(), r, tickets, nil)
	} else {
		wantTickets(t, example(), r, nil, tickets)
	}
}

// wantOne asks for the number of the ticket of the side's call, -1: it has none.
func (s side) wantOne(t *testing.T, number int, trace ...api.Access) {
	t.Helper()
	if number < 0 {
		s.want(t, []api.Call{s.call}, trace)
		return
	}
	s.want(t, []api.Call{s.call}, trace, api.Ticket{Number: number, Value: 7})
}

// P22.3: the first swap alone counts, the first one of the trace.
func TestTicketsFirstSwap(t *testing.T) {
	for _, s := range sides() {
		one, two, three := at(13, gets(1, s.addr, 3)), at(15, gets(1, s.addr, 4)), at(14, gets(1, s.addr, 5))
		s.wantOne(t, -1)
		s.wantOne(t, 3, one)
		s.wantOne(t, 3, one, two, three)
		s.wantOne(t, 4, two, one, three)
		s.wantOne(t, 4, two, three, one)
		s.wantOne(t, 5, three, two, one)
		s.wantOne(t, 3, at(13, fails(1, s.addr, 2, 3)), one, two)
		same := at(13, gets(1, s.addr, 6))
		s.wantOne(t, 3, one, same)
		s.wantOne(t, 6, same, one)
	}
}

// P22.3: the swap's move is above the call's Begin, and not above its End.
func TestTicketsWithinTheCall(t *testing.T) {
	for _, s := range sides() {
		for move := -3; move < 40; move++ {
			swap := at(move, gets(1, s.addr, 3))
			number := -1
			if move > 10 && move <= 20 {
				number = 3
			}
			s.wantOne(t, number, swap)
			// What is out of the call doesn't hide what is in it.
			if number < 0 {
				s.wantOne(t, 5, swap, at(11, gets(1, s.addr, 5)), swap)
				s.wantOne(t, 5, swap, at(20, gets(1, s.addr, 5)))
			}
		}
	}
}

// P22.3: a call that has not ended gets its ticket at any move above its Begin; any other End is one.
func TestTicketsOfOddSpans(t *testing.T) {
	least, most := -1<<63, 1<<63-1
	for _, s := range sides() {
		for _, span := range [][2]int{{10, -1}, {-9, -1}, {-9, -2}, {-2, 0}, {10, 10}, {20, 10}, {least, most}, {least, -1}, {most, -1}, {most, least}, {most - 1, most}, {least, least}} {
			c := with(s.call, func(c *api.Call) { c.Begin, c.End = span[0], span[1] })
			for _, move := range []int{least, least + 1, -10, -9, -8, -2, -1, 0, 1, 9, 10, 11, 20, 21, most - 1, most} {
				var want []api.Ticket
				if move > span[0] && (span[1] == -1 || move <= span[1]) {
					want = []api.Ticket{{Number: 3, Value: 7}}
				}
				s.want(t, []api.Call{c}, []api.Access{at(move, gets(1, s.addr, 3))}, want...)
			}
		}
	}
}

// P22.3: a swap of another thread, of another address, one that fails, a load and a store don't count.
func TestTicketsOfTheCallsOwnSwap(t *testing.T) {
	for _, s := range sides() {
		swap, good := at(13, gets(1, s.addr, 3)), at(14, gets(1, s.addr, 9))
		for _, change := range []func(a *api.Access){
			func(a *api.Access) { a.Thread = 0 },
			func(a *api.Access) { a.Thread = 2 },
			func(a *api.Access) { a.Thread = -1 },
			func(a *api.Access) { a.Addr = 1 - s.addr },
			func(a *api.Access) { a.Addr = 2 },
			func(a *api.Access) { a.Addr = -1 },
			func(a *api.Access) { a.Addr = 1<<63 - 1 },
			func(a *api.Access) { a.Saw = 2 },
			func(a *api.Access) { a.Saw = 4 },
			func(a *api.Access) { a.Saw = 3 | 1<<63 },
			func(a *api.Access) { a.Old = 4 },
			func(a *api.Access) { a.Kind = api.AccessLoad },
			func(a *api.Access) { a.Kind = api.AccessStore },
			func(a *api.Access) { a.Kind = 0 },
			func(a *api.Access) { a.Kind = 4 },
		} {
			odd := withAccess(swap, change)
			s.wantOne(t, -1, odd)
			s.wantOne(t, 9, odd, good)
			s.wantOne(t, 3, swap, odd)
		}
		// What the swap writes is not asked.
		s.wantOne(t, 3, withAccess(swap, func(a *api.Access) { a.New = 88 }))
	}
}

// P22.3: loads and stores have Saw like Old where both are 0.
func TestTicketsOfZeros(t *testing.T) {
	for _, s := range sides() {
		s.wantOne(t, -1, at(13, load(1, s.addr, 0)), at(14, store(1, s.addr, 0)))
		s.wantOne(t, 0, at(13, load(1, s.addr, 0)), at(14, gets(1, s.addr, 0)))
	}
}

// P22.3: tickets by Number, of like ones by Call; Call is the call's number in the list.
func TestTicketsInOrder(t *testing.T) {
	for _, s := range sides() {
		by := func(thread int) api.Call { return with(s.call, func(c *api.Call) { c.Thread = thread }) }
		calls := []api.Call{by(0), by(1), by(2), by(3), by(4), by(5)}
		var trace []api.Access
		for thread, ticket := range []int{4, 1, 4, -1 << 63, 0, 1} {
			trace = append(trace, at(20-thread, gets(thread, s.addr, ticket)))
		}
		want := []api.Ticket{
			{Call: 3, Number: -1 << 63, Value: 7}, {Call: 4, Number: 0, Value: 7}, {Call: 1, Number: 1, Value: 7},
			{Call: 5, Number: 1, Value: 7}, {Call: 0, Number: 4, Value: 7}, {Call: 2, Number: 4, Value: 7},
		}
		s.want(t, calls, trace, want...)
		slices.Reverse(trace)
		s.want(t, calls, trace, want...)
		// Two calls of one thread at the same time have the same ticket.
		s.want(t, []api.Call{by(1), by(1)}, trace, api.Ticket{Number: 1, Value: 7}, api.Ticket{Call: 1, Number: 1, Value: 7})
		// Numbers go by the word as a number.
		s.want(t, []api.Call{by(7)}, []api.Access{at(11, gets(7, s.addr, -1))}, api.Ticket{Number: -1, Value: 7})
	}
}

// P22.3: calls of other ops have no tickets, and are counted all the same; threads may be any.
func TestTicketsOfOtherCalls(t *testing.T) {
	for _, s := range sides() {
		odd := with(s.call, func(c *api.Call) { c.Op = api.OpPush })
		none := with(s.call, func(c *api.Call) { c.Thread = 2 })
		trace := []api.Access{at(13, gets(1, s.addr, 3))}
		s.want(t, []api.Call{odd}, trace)
		s.want(t, []api.Call{none}, trace)
		s.want(t, []api.Call{odd, none, s.call, odd}, trace, api.Ticket{Call: 2, Number: 3, Value: 7})
		for op := api.Op(-2); op < 200; op++ {
			if op != api.OpPut && op != api.OpPick {
				c := with(s.call, func(c *api.Call) { c.Op = op })
				s.want(t, []api.Call{c}, []api.Access{at(13, gets(1, putsAt, 3)), at(13, gets(1, picksAt, 3))})
			}
		}
		for _, thread := range []int{-1, 2, 16, -1 << 63, 1<<63 - 1} {
			c := with(s.call, func(c *api.Call) { c.Thread = thread })
			s.want(t, []api.Call{c}, []api.Access{at(13, gets(thread, s.addr, 3))}, api.Ticket{Number: 3, Value: 7})
		}
	}
}

// P22.3: a put's Value is its Arg, a pick's its answer's Value, whatever the answer is.
func TestTicketsValues(t *testing.T) {
	puts, picks := sides()[0], sides()[1]
	for _, v := range []int{0, -1, 1 << 40, -1 << 63, 1<<63 - 1} {
		for kind := api.AnswerKind(-1); kind < 9; kind++ {
			for _, end := range []int{20, -1} {
				a := api.Answer{Kind: kind, Value: v}
				one := with(puts.call, func(c *api.Call) { c.Arg, c.Answer, c.End = v, a, end })
				puts.want(t, []api.Call{one}, []api.Access{at(13, gets(1, putsAt, 3))}, api.Ticket{Number: 3, Value: v})
				one.Arg++
				puts.want(t, []api.Call{one}, []api.Access{at(13, gets(1, putsAt, 3))}, api.Ticket{Number: 3, Value: v + 1})
				two := with(picks.call, func(c *api.Call) { c.Answer, c.End = a, end })
				picks.want(t, []api.Call{two}, []api.Access{at(13, gets(1, picksAt, 3))}, api.Ticket{Number: 3, Value: v})
			}
		}
	}
}

// P22.3: of runs as they are made: tickets from the swap on, the value of a pick from its end on.
func TestTicketsOnTheirWay(t *testing.T) {
	w := filled(t, ringOf(3, 3), 0, 5, 6)
	puts := []api.Ticket{{Value: 5}, {Call: 1, Number: 1, Value: 6}}
	w.make(t, put(1, 8))
	w.steps(t, 1, 2)
	w.make(t, pick(2))
	w.steps(t, 2, 2)
	w.wantTickets(t, puts, nil)
	w.steps(t, 1, 1)
	puts = append(puts, api.Ticket{Call: 2, Number: 2, Value: 8})
	w.wantTickets(t, puts, nil)
	w.steps(t, 2, 1)
	w.wantTickets(t, puts, []api.Ticket{{Call: 3}})
	w.steps(t, 2, 1)
	w.calls(t, full, put(0, 9)) // the pick is not through, and this put has no ticket
	w.wantTickets(t, puts, []api.Ticket{{Call: 3}})
	w.steps(t, 2, 1)
	w.wantTickets(t, puts, []api.Ticket{{Call: 3, Value: 5}})
	w.calls(t, value(6), pick(0))
	w.calls(t, empty, pick(0))
	w.wantTickets(t, puts, []api.Ticket{{Call: 3, Value: 5}, {Call: 5, Number: 1, Value: 6}})
	w.finish(t, 1)
	w.wantTickets(t, puts, []api.Ticket{{Call: 3, Value: 5}, {Call: 5, Number: 1, Value: 6}})
}

// passed is a ticket by P22.3's words, with its swap's move and its call's End.
type passed struct {
	api.Ticket
	move, end int
}

// plainPassed is P22.3 in the simplest way.
func plainPassed(r api.Run, s side) []passed {
	var list []passed
	for number, c := range r.Calls {
		if c.Op != s.op {
			continue
		}
		for _, a := range r.Trace {
			mine := a.Thread == c.Thread && a.Move > c.Begin && (c.End == -1 || a.Move <= c.End)
			if !mine || a.Kind != api.AccessSwap || a.Addr != s.addr || a.Saw != a.Old {
				continue
			}
			p := passed{api.Ticket{Call: number, Number: int(a.Old), Value: c.Arg}, a.Move, c.End}
			if c.Op == api.OpPick {
				p.Value = c.Answer.Value
			}
			list = append(list, p)
			break
		}
	}
	slices.SortStableFunc(list, func(a, b passed) int {
		switch {
		case a.Number < b.Number:
			return -1
		case a.Number > b.Number:
			return 1
		}
		return 0
	})
	return list
}

func plainTickets(r api.Run, s side) []api.Ticket {
	var list []api.Ticket
	for _, p := range plainPassed(r, s) {
		list = append(list, p.Ticket)
	}
	return list
}

// wantPlain asks that Tickets are as their words say, and tells how many there are.
func wantPlain(t *testing.T, c api.Ring, r api.Run) int {
	t.Helper()
	puts, picks := plainTickets(r, sides()[0]), plainTickets(r, sides()[1])
	gotPuts, gotPicks, e := ring.Tickets(c, r)
	if !slices.Equal(gotPuts, puts) || !slices.Equal(gotPicks, picks) || e != api.OK {
		t.Fatalf("Tickets = %v, %v, %d, not %v, %v: %+v", gotPuts, gotPicks, e, puts, picks, r)
	}
	return len(puts) + len(picks)
}

// P22.3 of many scripts' runs, and of such in another order.
func TestTicketsOfRuns(t *testing.T) {
	d := dice(4)
	count := 0
	eachChance(120, func(c api.Ring, moves []api.Move) {
		r := playOf(t, c, moves...)
		count += wantPlain(t, c, r)
		for i := range r.Trace {
			j := d.below(i + 1)
			r.Trace[i], r.Trace[j] = r.Trace[j], r.Trace[i]
		}
		count += wantPlain(t, c, r)
		for i := range r.Calls {
			r.Calls[i].Begin -= d.below(60)
			r.Calls[i].End += d.below(60)
		}
		count += wantPlain(t, c, r)
	})
	if count < 5000 {
		t.Errorf("%d tickets", count)
	}
}

// P22.3 of traces in which all is a swap, and calls that go on for long.
func TestTicketsOfManySwaps(t *testing.T) {
	d := dice(6)
	for range 300 {
		var r api.Run
		span := 1 + d.below(60)
		for range d.below(80) {
			a := gets(d.below(3), d.below(2), d.below(50))
			if d.below(5) == 0 {
				a.Saw++
			}
			r.Trace = append(r.Trace, at(d.below(span), a))
		}
		for range d.below(30) {
			begin := d.below(span+2) - 2
			c := api.Call{Thread: d.below(3), Op: api.OpPut + api.Op(d.below(2)), Arg: d.below(9), Begin: begin, End: begin + d.below(span)}
			if d.below(4) == 0 {
				c.End = -1
			}
			r.Calls = append(r.Calls, c)
		}
		wantPlain(t, example(), r)
	}
}

// P22.3: also where each of many calls has many swaps it is told in time.
func TestTicketsOfMuch(t *testing.T) {
	const count = 200000
	var r api.Run
	for i := range count {
		r.Trace = append(r.Trace, at(count-i, gets(0, putsAt, i)))
		r.Calls = append(r.Calls, api.Call{Op: api.OpPut, Begin: i / 2, End: -1})
	}
	puts, picks, e := ring.Tickets(example(), r)
	if len(puts) != count || len(picks) != 0 || e != api.OK || puts[count-1] != (api.Ticket{Call: count - 1}) {
		t.Errorf("%d, %d, %d", len(puts), len(picks), e)
	}
}
