package ring_test

import (
	"slices"
	"testing"

	"reclaim/api"
	"reclaim/ring"
)

// none is no ticket, no end.
const none = -1

// pass is a call of a run that is told by hand, by a thread of its own, with the swap that gets its ticket.
type pass struct {
	call   api.Call
	ticket int
	swap   int // its move
}

// passAt is a pass in a stretch of moves of its own, ten times tenth to five above it.
func passAt(tenth int, op api.Op, ticket, arg int, a api.Answer) pass {
	begin := 10 * tenth
	return pass{
		call:   api.Call{Thread: tenth, Op: op, Arg: arg, Begin: begin, End: begin + 5, Point: begin + 3, Answer: a},
		ticket: ticket,
		swap:   begin + 3,
	}
}

func putAt(tenth, ticket, v int) pass { return passAt(tenth, api.OpPut, ticket, v, done) }

func pickAt(tenth, ticket, v int) pass { return passAt(tenth, api.OpPick, ticket, 0, value(v)) }

// fullAt and emptyAt are calls without a ticket, on their way for long, with their point.

func fullAt(point int) pass { return longAt(api.OpPut, point, full) }

func emptyAt(point int) pass { return longAt(api.OpPick, point, empty) }

func longAt(op api.Op, point int, a api.Answer) pass {
	return pass{call: api.Call{Thread: 99, Op: op, Begin: -9, End: 999, Point: point, Answer: a}, ticket: none}
}

func (p pass) with(change func(p *pass)) pass {
	change(&p)
	return p
}

// pending is the pass whose call has not ended.
func (p pass) pending() pass {
	return p.with(func(p *pass) { p.call.End, p.call.Answer = none, api.Answer{} })
}

// withEnd is the pass whose call has another End.
func (p pass) withEnd(end int) pass { return p.with(func(p *pass) { p.call.End = end }) }

func (p pass) withTicket(ticket int) pass { return p.with(func(p *pass) { p.ticket = ticket }) }

func (p pass) withAnswer(a api.Answer) pass { return p.with(func(p *pass) { p.call.Answer = a }) }

// runOf is a run of these.
func runOf(list ...pass) api.Run {
	var r api.Run
	for _, p := range list {
		r.Calls = append(r.Calls, p.call)
		if p.ticket != none {
			r.Trace = append(r.Trace, at(p.swap, gets(p.call.Thread, int(p.call.Op-api.OpPut), p.ticket)))
		}
	}
	return r
}

func wantHoldsIn(t *testing.T, c api.Ring, so bool, list ...pass) {
	t.Helper()
	r := runOf(list...)
	if got, e := ring.Holds(c, r); got != so || e != api.OK {
		t.Errorf("Holds(%+v) = %v, %d, not %v", r, got, e, so)
	}
	slices.Reverse(r.Calls) // the order of the calls in the list is nothing
	if got, e := ring.Holds(c, r); got != so || e != api.OK {
		t.Errorf("Holds(%+v) = %v, %d, not %v", r, got, e, so)
	}
}

func wantHolds(t *testing.T, so bool, list ...pass) {
	t.Helper()
	wantHoldsIn(t, example(), so, list...)
}

// four are two puts and two picks, one behind the other.
func four() []pass {
	return []pass{putAt(0, 0, 5), putAt(1, 1, 6), pickAt(2, 0, 5), pickAt(3, 1, 6)}
}

// but is the list with one of them changed.
func but(list []pass, i int, change func(p pass) pass) []pass {
	same := slices.Clone(list)
	same[i] = change(same[i])
	return same
}

// P22.4.1: the tickets are 0, 1, 2 and so on.
func TestHoldsTickets(t *testing.T) {
	wantHolds(t, true)
	wantHolds(t, true, four()...)
	wantHolds(t, true, putAt(0, 0, 5))
	for n := range 5 {
		wantHolds(t, n <= 4, four()[:min(n, 4)]...)
	}
	for ticket := -3; ticket < 5; ticket++ {
		wantHolds(t, ticket <= 0 && ticket >= -1, putAt(0, ticket, 5)) // -1 is none
		for i, own := range []int{0, 1, 0, 1} {
			so := ticket == own || ticket == none && i == 3 // a last pick may be lacking
			wantHolds(t, so, but(four(), i, func(p pass) pass { return p.withTicket(ticket) })...)
		}
	}
	wantHolds(t, false, slices.Delete(four(), 0, 1)...)
	wantHolds(t, false, slices.Delete(four(), 1, 2)...)
	wantHolds(t, false, slices.Delete(four(), 2, 3)...)
	wantHolds(t, true, slices.Delete(four(), 3, 4)...)
	wantHolds(t, false, append(four(), putAt(4, 1, 6))...)
	wantHolds(t, false, append(four(), pickAt(4, 1, 6))...)
	wantHolds(t, true, append(four(), putAt(4, 2, 6))...)
	wantHolds(t, false, append(four(), putAt(4, 3, 6))...)
}

// P22.4.1: it is the numbers that count, not when they were got, and not in which order they are listed.
func TestHoldsTicketsInAnyOrder(t *testing.T) {
	wantHolds(t, true, putAt(1, 0, 5), putAt(0, 1, 6), pickAt(3, 0, 5), pickAt(2, 1, 6))
	wantHolds(t, true, pickAt(3, 0, 5), pickAt(2, 1, 6), putAt(8, 1, 6), putAt(9, 0, 5))
	wantHolds(t, false, putAt(1, 0, 5), putAt(0, 1, 6), pickAt(2, 0, 6), pickAt(3, 1, 5))
}

// P22.4.2: of each pick there is the put with its number; one that has ended has its value.
func TestHoldsValues(t *testing.T) {
	wantHolds(t, false, pickAt(0, 0, 5))
	wantHolds(t, false, pickAt(0, 0, 0))
	wantHolds(t, false, pickAt(0, 0, 0).pending())
	wantHolds(t, false, putAt(0, 0, 5), pickAt(2, 0, 5), pickAt(3, 1, 0))
	wantHolds(t, false, putAt(0, 0, 5), pickAt(2, 0, 5), pickAt(3, 1, 0).pending())
	for _, v := range []int{0, 5, 6, 7, -5, -1 << 63} {
		pick := pickAt(2, 0, v)
		wantHolds(t, v == 5, putAt(0, 0, 5), pick)
		wantHolds(t, v == 5, putAt(0, 0, 5).pending(), pick)
		wantHolds(t, true, putAt(0, 0, v), pick)
		wantHolds(t, true, putAt(0, 0, 5), pick.pending())
		wantHolds(t, true, putAt(0, 0, 5), pick.withEnd(none)) // with another Value, or the same
		wantHolds(t, v == 6, but(four(), 3, func(p pass) pass { return p.withAnswer(value(v)) })...)
		// Whatever the kind of the answer: its Value is asked alone.
		for _, kind := range []api.AnswerKind{api.AnswerNone, api.AnswerDone, api.AnswerFull, api.AnswerYes, -1, 99} {
			odd := api.Answer{Kind: kind, Value: v}
			wantHolds(t, v == 6, but(four(), 3, func(p pass) pass { return p.withAnswer(odd) })...)
			wantHolds(t, true, but(four(), 3, func(p pass) pass { return p.withAnswer(odd).withEnd(none) })...)
		}
	}
	// An End below -1 is one; the swap must not lie behind it.
	early := pickAt(2, 0, 7).with(func(p *pass) { p.call.Begin, p.call.End, p.swap = -9, -2, -4 })
	wantHolds(t, false, putAt(0, 0, 5), early)
	wantHolds(t, true, putAt(0, 0, 5), early.withAnswer(value(5)))
	wantHolds(t, true, putAt(0, 0, 5), early.withEnd(none))
}

// P22.4.3: the put that an empty pick waits for is that with the number of picks' tickets ahead of the point.
func TestHoldsEmpty(t *testing.T) {
	for point := -20; point < 60; point++ {
		// The picks' swaps are at 23 and 33, the puts' ends at 5 and 15.
		wantHolds(t, true, emptyAt(point))
		wantHolds(t, point < 5, putAt(0, 0, 5), emptyAt(point))
		wantHolds(t, true, putAt(0, 0, 5).pending(), emptyAt(point))
		wantHolds(t, point < 5 || point > 23, putAt(0, 0, 5), pickAt(2, 0, 5), emptyAt(point))
		wantHolds(t, point < 5 || point > 33, append(four(), emptyAt(point))...)
		wantHolds(t, point < 5 || point > 23, append(but(four(), 1, pass.pending), emptyAt(point))...)
		wantHolds(t, point < 15 || point > 33, append(but(four(), 0, func(p pass) pass { return p.withEnd(15) }), emptyAt(point))...)
		// A third put, behind the picks.
		wantHolds(t, point < 5 || point > 33 && point < 45, append(four(), putAt(4, 2, 7), emptyAt(point))...)
		wantHolds(t, point < 5 || point > 33, append(four(), putAt(4, 2, 7).pending(), emptyAt(point))...)
	}
}

// P22.4.3: the point of an empty pick is right up to the move ahead of that in which the put ended.
func TestHoldsEmptyAroundAnEnd(t *testing.T) {
	for _, point := range []int{1, 17, 22, 1000} {
		for shift := -2; shift <= 2; shift++ {
			put := putAt(0, 0, 5).withEnd(point + shift)
			if put.call.End < put.swap {
				continue // it would have no ticket
			}
			wantHolds(t, shift > 0, put, emptyAt(point))
		}
	}
}

// P22.4.3: the count is of swaps in a move below the point, whatever their numbers are.
func TestHoldsEmptyCountsSwaps(t *testing.T) {
	late := putAt(1, 1, 6).withEnd(500)
	for point := 20; point < 60; point++ {
		// The pick with the number 1 has swapped first: at 23.
		n := 0
		for _, swap := range []int{23, 33} {
			if swap < point {
				n++
			}
		}
		so := []bool{false, true, true}[n]
		wantHolds(t, so, putAt(0, 0, 5), late, pickAt(2, 1, 6), pickAt(3, 0, 5), emptyAt(point))
	}
}

// P22.4.4: a full put needs as many tickets as cells ahead of its point, and the pick that it waits for not
// through.
func TestHoldsFull(t *testing.T) {
	for point := -20; point < 60; point++ {
		// The puts' swaps are at 3 and 13, the picks' ends at 25 and 35.
		wantHolds(t, false, fullAt(point))
		wantHolds(t, false, putAt(0, 0, 5), fullAt(point))
		wantHolds(t, point > 13, putAt(0, 0, 5), putAt(1, 1, 6), fullAt(point))
		wantHolds(t, point > 13, putAt(0, 0, 5).pending(), putAt(1, 1, 6).pending(), fullAt(point))
		wantHolds(t, point > 13 && point < 25, append(four(), fullAt(point))...)
		wantHolds(t, point > 13, append(but(four(), 2, pass.pending), fullAt(point))...)
		wantHolds(t, point > 13 && point < 25, append(but(four(), 3, pass.pending), fullAt(point))...)
		// A third put: the pick with the number 1 is the one to wait for from 44 on.
		wantHolds(t, point > 13 && point < 25, append(four(), putAt(4, 2, 7), fullAt(point))...)
		wantHolds(t, point > 13 && point < 25 || point > 43, append(but(four(), 3, pass.pending), putAt(4, 2, 7), fullAt(point))...)
		wantHolds(t, point > 13 && point < 25 || point > 43 && point < 50, append(but(four(), 3, func(p pass) pass { return p.withEnd(50) }), putAt(4, 2, 7), fullAt(point))...)
		// With more cells there are too few tickets.
		wantHoldsIn(t, ringOf(2, 3), false, append(four(), fullAt(point))...)
		wantHoldsIn(t, ringOf(2, 3), point > 43, putAt(0, 0, 5), putAt(1, 1, 6), putAt(4, 2, 7), fullAt(point))
	}
}

// P22.4.4: the point of a full put is right up to the move ahead of that in which the pick ended.
func TestHoldsFullAroundAnEnd(t *testing.T) {
	for _, point := range []int{24, 25, 1000} {
		for shift := -1; shift <= 2; shift++ {
			pick := pickAt(2, 0, 5).withEnd(point + shift)
			wantHolds(t, shift > 0, putAt(0, 0, 5), putAt(1, 1, 6), pick, fullAt(point))
		}
	}
}

// P22.4.4: Cells is that of the ring.
func TestHoldsCells(t *testing.T) {
	for _, cells := range []int{2, 3, 7, api.MaxRing} {
		var list []pass
		for i := range cells {
			wantHoldsIn(t, ringOf(1, cells), false, append(slices.Clone(list), fullAt(10*cells))...)
			list = append(list, putAt(i, i, i))
		}
		wantHoldsIn(t, ringOf(1, cells), true, append(slices.Clone(list), fullAt(10*cells))...)
		wantHoldsIn(t, ringOf(1, cells), false, append(slices.Clone(list), fullAt(10*cells-7))...)
		wantHoldsIn(t, ringOf(1, cells), true, append(slices.Clone(list), pickAt(cells, 0, 0), fullAt(10*cells+4))...)
		wantHoldsIn(t, ringOf(1, cells), false, append(slices.Clone(list), pickAt(cells, 0, 0), fullAt(10*cells+5))...)
	}
}

// P22.4: a point of -1 is a number like any other; whether it lies in its call is not asked.
func TestHoldsPointsAnywhere(t *testing.T) {
	wantHolds(t, true, append(four(), emptyAt(-1))...)
	wantHolds(t, false, append(four(), fullAt(-1))...)
	early := putAt(0, 0, 5).with(func(p *pass) { p.call.Begin, p.call.End, p.swap = -9, -2, -4 })
	wantHolds(t, false, early, emptyAt(-1))
	wantHolds(t, true, early.withEnd(none), emptyAt(-1))
	wantHolds(t, true, early, putAt(1, 1, 6).with(func(p *pass) { p.call.Begin, p.swap = -9, -3 }), fullAt(-1))
	least, most := -1<<63, 1<<63-1
	wantHolds(t, true, append(four(), emptyAt(least), emptyAt(most))...)
	wantHolds(t, false, append(four(), fullAt(least))...)
	wantHolds(t, false, append(four(), fullAt(most))...)
	wantHolds(t, true, append(four()[:2], fullAt(most))...)
	for _, point := range []int{-50, 0, 7, 3} {
		wantHolds(t, true, but(four(), 1, func(p pass) pass { return p.with(func(p *pass) { p.call.Point = point }) })...)
	}
	out := emptyAt(40).with(func(p *pass) { p.call.Begin, p.call.End = 90, 91 })
	wantHolds(t, true, append(four(), out)...)
}

// P22.4: what counts is the answer of the op's own calls: a pick that is full, a put that is empty, and calls
// of other ops are not looked at.
func TestHoldsOtherAnswers(t *testing.T) {
	for kind := api.AnswerKind(-1); kind < 9; kind++ {
		a := api.Answer{Kind: kind, Value: 3}
		wantHolds(t, kind != api.AnswerEmpty, append(four(), longAt(api.OpPick, 10, a))...)
		wantHolds(t, kind != api.AnswerFull, append(four(), longAt(api.OpPut, 10, a))...)
		for op := api.Op(-2); op < 200; op++ {
			if op != api.OpPut && op != api.OpPick {
				wantHolds(t, true, append(four(), longAt(op, 10, a))...)
			}
		}
	}
	// One with a ticket is looked at as well; so is one that tells its answer beside no end.
	wantHolds(t, false, but(four(), 1, func(p pass) pass { return p.withAnswer(full) })...)
	wantHolds(t, true, append(four()[:2], putAt(4, 2, 7).withAnswer(full))...)
	wantHolds(t, false, append(four()[:2], pickAt(4, 0, 0).withAnswer(empty).withEnd(none))...)
	wantHolds(t, false, append(four(), emptyAt(10).withEnd(none))...)
	wantHolds(t, false, append(four(), fullAt(10).withEnd(none))...)
	wantHolds(t, true, append(four(), emptyAt(40).withEnd(none), fullAt(20).withEnd(none))...)
}

// P22.4: what else the run has is not looked at.
func TestHoldsLooksAtNothingElse(t *testing.T) {
	for _, so := range []bool{true, false} {
		r := runOf(append(four(), fullAt(map[bool]int{true: 20, false: 10}[so]))...)
		for i := range r.Calls {
			r.Calls[i].Data = i
		}
		r.Trace = append(r.Trace, api.Access{Move: -3, Thread: 99, Kind: 7, Addr: -1}, at(40, gets(7, putsAt, 77)), at(23, gets(2, 2, 8)))
		r.Shifts = []api.Shift{{Slot: 88, From: 3, To: 9}}
		r.Words = []uint64{1}
		if got, e := ring.Holds(example(), r); got != so || e != api.OK {
			t.Errorf("Holds = %v, %d", got, e)
		}
	}
}

// judge is P22.4 by its words, in the simplest way.
func judge(c api.Ring, r api.Run) bool {
	puts, picks := plainPassed(r, sides()[0]), plainPassed(r, sides()[1])
	for _, list := range [][]passed{puts, picks} {
		for i, p := range list {
			if p.Number != i {
				return false
			}
		}
	}
	with := func(list []passed, number int) *passed {
		for _, p := range list {
			if p.Number == number {
				return &p
			}
		}
		return nil
	}
	for _, p := range picks {
		put := with(puts, p.Number)
		if put == nil || p.end != -1 && p.Value != put.Value {
			return false
		}
	}
	ahead := func(list []passed, point int) int {
		n := 0
		for _, p := range list {
			if p.move < point {
				n++
			}
		}
		return n
	}
	for _, call := range r.Calls {
		if call.Op == api.OpPick && call.Answer.Kind == api.AnswerEmpty {
			put := with(puts, ahead(picks, call.Point))
			if put != nil && put.end != -1 && put.end <= call.Point {
				return false
			}
		}
		if call.Op == api.OpPut && call.Answer.Kind == api.AnswerFull {
			n := ahead(puts, call.Point)
			if n < c.Cells {
				return false
			}
			pick := with(picks, n-c.Cells)
			if pick != nil && pick.end != -1 && pick.end <= call.Point {
				return false
			}
		}
	}
	return true
}

// wantJudged asks that Holds is as its words say, and tells what it is.
func wantJudged(t *testing.T, c api.Ring, r api.Run) string {
	t.Helper()
	so := judge(c, r)
	if got, e := ring.Holds(c, r); got != so || e != api.OK {
		t.Fatalf("Holds = %v, %d, not %v: %+v", got, e, so, r)
	}
	return map[bool]string{true: "true", false: "false"}[so]
}

// P22.3, P22.4 of runs of which a single thing was made another: as their words say.
func TestHoldsOfChangedRuns(t *testing.T) {
	d := dice(77)
	met := map[string]int{}
	eachChance(150, func(c api.Ring, moves []api.Move) {
		moves = moves[:len(moves)/2]
		r := playOf(t, c, moves...)
		for range 40 {
			if len(r.Calls) == 0 || len(r.Trace) == 0 {
				return
			}
			changed := cloneRun(r)
			if d.below(3) > 0 {
				changeCall(&d, changed.Calls)
			} else {
				changeAccess(&d, &changed)
			}
			wantPlain(t, c, changed)
			met[wantJudged(t, c, changed)]++
		}
	})
	wantMet(t, met, 500, "true", "false")
}

// changeCall makes a single thing of a call another.
func changeCall(d *dice, calls []api.Call) {
	call := &calls[d.below(len(calls))]
	other := calls[d.below(len(calls))]
	switch d.below(11) {
	case 0:
		call.Point += d.below(5) - 2
	case 1:
		call.Point = -1
	case 2:
		call.Point = other.End
	case 3:
		call.Answer.Kind = api.AnswerKind(d.below(7))
	case 4:
		call.Answer.Value = other.Arg
	case 5:
		call.End = -1
	case 6:
		call.End += d.below(9) - 4
	case 7:
		call.Arg = other.Arg
	case 8:
		call.Op = api.OpPut - 1 + api.Op(d.below(4))
	case 9:
		call.Thread = other.Thread
	case 10:
		call.Begin = other.Point
	}
}

// changeAccess makes a single thing of an access another, most of the time of a swap.
func changeAccess(d *dice, r *api.Run) {
	a := &r.Trace[d.below(len(r.Trace))]
	for range 20 {
		if a.Kind != api.AccessSwap {
			a = &r.Trace[d.below(len(r.Trace))]
		}
	}
	switch d.below(8) {
	case 0:
		a.Move += d.below(9) - 4
	case 1:
		a.Thread = 1 - a.Thread
	case 2:
		a.Kind = api.AccessKind(d.below(5))
	case 3:
		a.Addr = 1 - a.Addr
	case 4:
		a.Old += uint64(d.below(3) - 1)
	case 5:
		a.Saw += uint64(d.below(3) - 1)
	case 6:
		a.Old += uint64(d.below(3) - 1)
		a.Saw = a.Old
	case 7:
		r.Trace = append(r.Trace, *a)
	}
}

// P22.4 of runs that are made up: puts and picks with the right tickets and values most of the time, got and
// through at any moves, among calls that are full or empty at any moves.
func TestHoldsOfMadeUpRuns(t *testing.T) {
	d := dice(31)
	met := map[string]int{}
	for range 20000 {
		c := ringOf(3, 2+d.below(2))
		var list []pass
		puts := d.below(5)
		for i := range puts {
			list = append(list, madeUp(&d, putAt(i, i, i)))
		}
		for i := range d.below(puts + 1) {
			list = append(list, madeUp(&d, pickAt(5+i, i, i)))
		}
		for range d.below(4) {
			list = append(list, []pass{emptyAt(d.below(60) - 1), fullAt(d.below(60) - 1)}[d.below(2)])
		}
		met[wantJudged(t, c, runOf(list...))]++
	}
	wantMet(t, met, 2000, "true", "false")
}

// madeUp is the pass at moves by chance, and sometimes with a ticket or a value that is another's.
func madeUp(d *dice, p pass) pass {
	p.call.Begin = d.below(40) - 1
	p.swap = p.call.Begin + 1 + d.below(9)
	p.call.End = p.swap + d.below(9)
	switch d.below(40) {
	case 0:
		p.ticket += d.below(3) - 1
	case 1:
		p.call.Answer.Value++
	case 2, 3, 4, 5, 6, 7, 8:
		p = p.pending()
	}
	return p
}
