package mcas_test

import (
	"cmp"
	"math"
	"slices"
	"testing"

	"reclaim/api"
	"reclaim/mcas"
)

// at is a call in a stretch of moves of its own: its point is a tenth.
func at(tenth int, mv api.Move, a api.Answer) api.Call {
	return api.Call{
		Thread: mv.Thread, Op: mv.Op, Arg: mv.Arg, Data: mv.Data, Begin: 10*tenth - 4, End: 10*tenth + 4, Point: 10 * tenth, Answer: a,
	}
}

// onItsWay is the call, not ended, without an answer and without a point.
func onItsWay(c api.Call) api.Call {
	c.End, c.Point, c.Answer = none, none, api.Answer{}
	return c
}

func with(c api.Call, change func(c *api.Call)) api.Call {
	change(&c)
	return c
}

// small is the memory of the calls that are told by hand.
func small() api.Multi {
	return api.Multi{Threads: 3, Uses: 3, Cells: []int{5, 6, 7}, Swaps: [][]api.MultiEntry{
		swapOf([3]int{0, 5, 8}, [3]int{2, 7, 9}), // 0
		swapOf([3]int{0, 8, 5}, [3]int{2, 9, 7}), // 1
		swapOf([3]int{0, 5, 1}, [3]int{2, 9, 1}), // 2: never
		swapOf([3]int{1, 6, 6}),                  // 3: changes nothing
	}}
}

// leaves are words in which the cells have these values, and all else is 0.
func leaves(values ...int) []uint64 {
	words := make([]uint64, sizeOf(small()))
	for i, v := range values {
		words[i] = uint64(4 * v)
	}
	return words
}

func wantJudgement(t *testing.T, so bool, r api.Run) {
	t.Helper()
	if got, e := mcas.Holds(small(), r); got != so || e != api.OK {
		t.Errorf("Holds(%+v) = %v, %d, not %v", r, got, e, so)
	}
}

// wantHolds asks of calls that leave such values.
func wantHolds(t *testing.T, so bool, left []int, calls ...api.Call) {
	t.Helper()
	wantJudgement(t, so, api.Run{Calls: calls, Words: leaves(left...)})
}

// wantNone asks that calls are none of the machine's, whatever the words' values are.
func wantNone(t *testing.T, calls ...api.Call) {
	t.Helper()
	for _, left := range [][]int{{5, 6, 7}, {8, 6, 9}} {
		if got, e := mcas.Holds(small(), api.Run{Calls: calls, Words: leaves(left...)}); got || e != api.ErrMultiRun {
			t.Errorf("Holds(%+v) = %v, %d", calls, got, e)
		}
	}
}

var (
	atFirst = []int{5, 6, 7}
	swapped = []int{8, 6, 9}
)

// P25.8: answers as if each were made at once, and what they leave.
func TestHoldsAnswers(t *testing.T) {
	forth, back, never, same := multi(0, 0), multi(1, 1), multi(2, 2), multi(0, 3)
	wantHolds(t, true, atFirst)
	wantHolds(t, false, swapped)
	wantHolds(t, true, swapped, at(1, forth, yes))
	wantHolds(t, false, atFirst, at(1, forth, yes))
	wantHolds(t, false, []int{8, 6, 7}, at(1, forth, yes))
	wantHolds(t, true, atFirst, at(1, forth, yes), at(2, back, yes))
	wantHolds(t, true, atFirst, at(1, back, no))
	wantHolds(t, true, swapped, at(1, back, no), at(2, forth, yes), at(3, forth, no))
	wantHolds(t, true, atFirst, at(1, never, no))
	wantHolds(t, true, atFirst, at(1, same, yes), at(2, same, yes))
	for cell, v := range atFirst {
		wantHolds(t, true, atFirst, at(1, read(2, cell), value(v)))
		wantHolds(t, false, atFirst, at(1, read(2, cell), value(v+1)))
		wantHolds(t, true, swapped, at(1, read(2, cell), value(v)), at(2, forth, yes), at(3, read(1, cell), value(swapped[cell])))
	}
	// A read that sees half of a swap.
	wantHolds(t, false, swapped, at(1, forth, yes), at(2, read(1, 0), value(8)), at(3, read(1, 2), value(7)))
	wantHolds(t, false, swapped, at(1, read(1, 2), value(9)), at(2, forth, yes))
}

// P25.8: a single answer that is another, of each kind; a value beside a yes is no answer at all.
func TestHoldsWrongAnswers(t *testing.T) {
	for kind := api.AnswerKind(-1); kind < 9; kind++ {
		for _, v := range []int{0, 5, 8} {
			a := api.Answer{Kind: kind, Value: v}
			wantHolds(t, a == yes, swapped, at(1, multi(0, 0), a))
			wantHolds(t, false, atFirst, at(1, multi(0, 0), a))
			wantHolds(t, a == no, atFirst, at(1, multi(0, 1), a))
			wantHolds(t, a == no, atFirst, at(1, multi(0, 2), a))
			wantHolds(t, a == value(5), atFirst, at(1, read(0, 0), a))
			wantHolds(t, a == value(8), swapped, at(1, multi(0, 0), yes), at(2, read(0, 0), a))
		}
	}
}

// P25.8: the order is that of the moments, whatever the order in the list, of beginnings, of ends.
func TestHoldsByTheMoments(t *testing.T) {
	long := func(c api.Call) api.Call { return with(c, func(c *api.Call) { c.Begin, c.End = 0, 99 }) }
	calls := []api.Call{
		long(at(1, multi(0, 0), yes)), long(at(2, read(2, 2), value(9))), long(at(3, multi(1, 1), yes)), long(at(4, read(2, 2), value(7))),
		long(at(5, multi(0, 1), no)),
	}
	for range 30 {
		for i, c := range calls {
			calls[i], calls[(i*3+1)%5] = calls[(i*3+1)%5], c
			wantHolds(t, true, atFirst, calls...)
		}
	}
	calls[0].Point, calls[1].Point = calls[1].Point, calls[0].Point
	wantHolds(t, false, atFirst, calls...)
}

// P25.8: each moment lies behind Begin, and, of a call that has ended, not behind its End.
func TestHoldsMomentsOfTheirCalls(t *testing.T) {
	for _, call := range []api.Call{at(1, multi(0, 3), yes), at(1, multi(0, 2), no), at(1, read(1, 1), value(6))} {
		for point := -20; point < 40; point++ {
			for _, span := range [][2]int{{6, 14}, {9, 10}, {10, 10}, {10, 9}, {0, 10}, {-30, 30}, {-30, -2}, {14, 6}} {
				c := with(call, func(c *api.Call) { c.Begin, c.End, c.Point = span[0], span[1], point })
				wantHolds(t, point != none && point > span[0] && point <= span[1], atFirst, c)
				c.End = none
				wantHolds(t, point == none || point > span[0], atFirst, c)
			}
		}
	}
	least, most := math.MinInt, math.MaxInt
	at := func(begin, end, point int) api.Call {
		return api.Call{Op: api.OpMultiRead, Begin: begin, End: end, Point: point, Answer: value(5)}
	}
	wantHolds(t, true, atFirst, at(least, most, 0))
	wantHolds(t, true, atFirst, at(least, most, most))
	wantHolds(t, true, atFirst, at(least, least+1, least+1))
	wantHolds(t, false, atFirst, at(least, most, least))
	wantHolds(t, false, atFirst, at(most, most, most))
	wantHolds(t, false, atFirst, at(most, least, 0))
	wantHolds(t, true, atFirst, at(least, most, least+1), at(least, most, most))
}

// P25.8: a call that has ended has a Point.
func TestHoldsMissingPoints(t *testing.T) {
	for _, call := range []api.Call{at(1, multi(0, 3), yes), at(1, multi(0, 2), no), at(1, read(1, 1), value(6))} {
		without := with(call, func(c *api.Call) { c.Point = none })
		wantHolds(t, true, atFirst, call)
		wantHolds(t, false, atFirst, without)
		wantHolds(t, false, swapped, at(2, multi(2, 0), yes), without)
		wantHolds(t, false, atFirst, with(without, func(c *api.Call) { c.Begin, c.End = -9, 5 }))
		wantHolds(t, false, atFirst, with(without, func(c *api.Call) { c.Begin, c.End = -9, -2 }))
		wantHolds(t, true, atFirst, onItsWay(call))
		// The trace is asked only of calls that have not ended.
		wantJudgement(t, false, api.Run{Calls: []api.Call{without}, Trace: []api.Access{won(0, 8)}, Words: leaves(5, 6, 7)})
	}
}

// P25.8: no two moments are the same, whatever the calls are.
func TestHoldsSameMoments(t *testing.T) {
	list := []api.Call{at(1, multi(0, 3), yes), at(1, multi(1, 2), no), at(1, read(1, 1), value(6)), at(1, read(2, 0), value(5))}
	for i, one := range list {
		for j, other := range list {
			wantHolds(t, false, atFirst, one, other)
			for _, point := range []int{9, 11} {
				wantHolds(t, true, atFirst, one, with(other, func(c *api.Call) { c.Point = point }))
			}
			if i != j {
				wantHolds(t, false, atFirst, with(one, func(c *api.Call) { c.End = none }), other)
				wantHolds(t, true, atFirst, onItsWay(one), onItsWay(other))
				between := with(list[3], func(c *api.Call) { c.Point = 8 })
				wantHolds(t, false, atFirst, one, between, other)
			}
		}
	}
	forth := onItsWay(at(1, multi(2, 0), yes))
	trace := []api.Access{won(6, 10)}
	wantJudgement(t, false, api.Run{Calls: []api.Call{forth, list[2]}, Trace: trace, Words: leaves(8, 6, 9)})
	list[2].Point = 9
	wantJudgement(t, true, api.Run{Calls: []api.Call{forth, list[2]}, Trace: trace, Words: leaves(8, 6, 9)})
}

// won is a swap at the status of a descriptor, from 0 to 1.
func won(d, move int) api.Access {
	return api.Access{Move: move, Thread: 2, Kind: api.AccessSwap, Addr: statusAt(small(), d), New: 1}
}

// P25.8: a swap that has not ended has the moment at which its status is swapped from 0 to 1.
func TestHoldsByTheTrace(t *testing.T) {
	forth := onItsWay(at(1, multi(0, 0), yes)) // it begins at move 6
	run := func(trace ...api.Access) api.Run {
		return api.Run{Calls: []api.Call{forth}, Trace: trace, Words: leaves(8, 6, 9)}
	}
	none := func(r api.Run) {
		t.Helper()
		wantJudgement(t, false, r)
		r.Words = leaves(5, 6, 7)
		wantJudgement(t, true, r)
	}
	wantJudgement(t, true, run(won(0, 8)))
	none(run())
	for d := 1; d < 9; d++ {
		none(run(won(d, 8)))
		wantJudgement(t, true, run(won(d, 8), won(0, 9)))
	}
	for _, change := range []func(a *api.Access){
		func(a *api.Access) { a.Kind = api.AccessStore }, func(a *api.Access) { a.Kind = api.AccessLoad }, func(a *api.Access) { a.Kind = 0 },
		func(a *api.Access) { a.Old = 1 }, func(a *api.Access) { a.Saw = 1 }, func(a *api.Access) { a.Saw = 2 },
		func(a *api.Access) { a.New = 2 }, func(a *api.Access) { a.New = 0 }, func(a *api.Access) { a.Old, a.Saw = 1, 1 },
		func(a *api.Access) { a.Addr++ }, func(a *api.Access) { a.Addr-- }, func(a *api.Access) { a.Addr = 0 }, func(a *api.Access) { a.Addr = -1 },
	} {
		odd := won(0, 8)
		change(&odd)
		none(run(odd))
		wantJudgement(t, true, run(odd, won(0, 9), odd))
	}
	// The first one in the trace counts, whoever makes it, and however the moves go.
	wantJudgement(t, true, run(won(0, 7), won(0, 3)))
	wantJudgement(t, false, run(won(0, 3), won(0, 7)))
	for _, move := range []int{math.MinInt, -2, -1, 0, 5, 6} {
		wantJudgement(t, false, run(won(0, move)))
	}
	for _, move := range []int{7, 10, math.MaxInt} {
		wantJudgement(t, true, run(won(0, move)))
	}
	early := run(won(0, -1))
	early.Calls[0].Begin = -2
	wantJudgement(t, true, early)
	for _, thread := range []int{-1, 0, 1, 99} {
		other := won(0, 8)
		other.Thread = thread
		wantJudgement(t, true, run(other))
	}
}

// A swap that has not ended, and that is decided, need not be the one that finds all Olds: it changes nothing then.
func TestHoldsOfSwapsOnTheirWay(t *testing.T) {
	onWay := onItsWay(at(1, multi(0, 2), no))
	wantJudgement(t, true, api.Run{Calls: []api.Call{onWay}, Trace: []api.Access{won(0, 8)}, Words: leaves(5, 6, 7)})
	for kind := range api.AnswerKind(8) {
		for _, mv := range []api.Move{multi(0, 0), read(0, 1)} {
			pointed := with(at(1, mv, api.Answer{Kind: kind, Value: 3}), func(c *api.Call) { c.End = none })
			left := [][]int{swapped, atFirst}[int(mv.Op-api.OpMulti)]
			wantHolds(t, true, left, pointed)
			// A Point goes ahead of what the trace has.
			wantJudgement(t, true, api.Run{Calls: []api.Call{pointed}, Trace: []api.Access{won(0, 3)}, Words: leaves(left...)})
			pointed.Point = 3
			wantHolds(t, false, left, pointed)
		}
		unpointed := with(onItsWay(at(1, multi(0, 0), yes)), func(c *api.Call) { c.Answer = api.Answer{Kind: kind, Value: 8} })
		wantHolds(t, true, atFirst, unpointed)
		wantJudgement(t, true, api.Run{Calls: []api.Call{unpointed}, Trace: []api.Access{won(0, 9)}, Words: leaves(8, 6, 9)})
	}
	// A read has none of the trace's.
	wantJudgement(t, true, api.Run{Calls: []api.Call{onItsWay(at(1, read(0, 0), yes))}, Trace: []api.Access{won(0, 2)}, Words: leaves(5, 6, 7)})
}

// P25.8: a thread's uth swap in the list has its uth descriptor; reads, and others' swaps, don't count.
func TestHoldsDescriptors(t *testing.T) {
	for thread := range 3 {
		for use := range 3 {
			var calls []api.Call
			for i := range use {
				calls = append(calls, at(1+2*i, multi(thread, 2), no), at(2+2*i, read(thread, 0), value(5)))
			}
			calls = append(calls, onItsWay(at(8, multi((thread+1)%3, 2), no)), onItsWay(at(8, multi(thread, 0), yes)))
			for d := range 9 {
				r := api.Run{Calls: calls, Trace: []api.Access{won(d, 88)}, Words: leaves(8, 6, 9)}
				wantJudgement(t, d == 3*thread+use, r)
			}
		}
	}
	// Calls stand in the list by their beginnings in true runs; it is the list that counts.
	late, soon := onItsWay(at(9, multi(0, 2), no)), onItsWay(at(1, multi(0, 0), yes))
	wantJudgement(t, true, api.Run{Calls: []api.Call{late, soon}, Trace: []api.Access{won(1, 9)}, Words: leaves(8, 6, 9)})
	wantJudgement(t, false, api.Run{Calls: []api.Call{soon, late}, Trace: []api.Access{won(1, 9)}, Words: leaves(8, 6, 9)})
}

// P25.8: calls that are none: of other ops, of threads, swaps or cells that there aren't, too many.
func TestHoldsNone(t *testing.T) {
	good := []api.Call{at(1, read(2, 1), value(6)), at(2, multi(1, 1), no)}
	wantHolds(t, true, atFirst, good...)
	odd := func(c api.Call) {
		t.Helper()
		for _, c := range []api.Call{c, onItsWay(c), with(c, func(c *api.Call) { c.Point = none }), with(c, func(c *api.Call) { c.Begin = 99 })} {
			wantNone(t, c)
			wantNone(t, append(slices.Clone(good), c)...)
			wantNone(t, append([]api.Call{c}, good...)...)
		}
	}
	for op := api.Op(-2); op < 200; op++ {
		if op != api.OpMulti && op != api.OpMultiRead {
			odd(with(at(3, read(0, 0), value(5)), func(c *api.Call) { c.Op = op }))
		}
	}
	for _, thread := range []int{-1, 3, 4, 16, math.MinInt, math.MaxInt} {
		odd(at(3, read(thread, 0), value(5)))
		odd(at(3, multi(thread, 1), no))
	}
	for _, arg := range []int{-1, 4, 5, math.MinInt, math.MaxInt} {
		odd(at(3, multi(0, arg), no))
	}
	for _, arg := range []int{-1, 3, 4, math.MinInt, math.MaxInt} {
		odd(at(3, read(0, arg), value(5)))
	}
	wantHolds(t, true, atFirst, at(3, multi(0, 3), yes), at(4, read(0, 2), value(7)))
}

// P25.8: Uses calls of OpMulti of each thread, and one more; reads as many as may be.
func TestHoldsUses(t *testing.T) {
	for thread := range 3 {
		var calls []api.Call
		for i := range 3 {
			calls = append(calls, at(1+4*i, multi(thread, 2), no), at(2+4*i, multi((thread+1)%3, 1), no))
			calls = append(calls, at(3+4*i, read(thread, 0), value(5)), at(4+4*i, read(thread, 1), value(6)))
			wantHolds(t, true, atFirst, calls...)
		}
		for _, c := range []api.Call{at(20, multi(thread, 2), no), onItsWay(at(20, multi(thread, 2), no)), at(20, multi((thread+1)%3, 3), yes)} {
			wantNone(t, append(slices.Clone(calls), c)...)
			wantNone(t, append([]api.Call{c}, calls...)...)
		}
		wantHolds(t, true, atFirst, append(calls, at(20, multi((thread+2)%3, 2), no))...)
	}
}

// P25.8: very many reads are told in time, in any order.
func TestHoldsManyReads(t *testing.T) {
	count := 300000
	r := api.Run{Words: leaves(8, 6, 9), Calls: []api.Call{onItsWay(at(0, multi(0, 0), yes))}, Trace: []api.Access{won(0, count)}}
	for i := range count {
		point := 2 * (i * 7 % count)
		answer := value(5)
		if point > count {
			answer = value(8)
		}
		if point != count {
			r.Calls = append(r.Calls, api.Call{Op: api.OpMultiRead, Begin: point - 1, End: point, Point: point, Answer: answer})
		}
		r.Trace = append(r.Trace, won(1+i%8, i))
	}
	wantJudgement(t, true, r)
	r.Calls[count/2].Answer.Value = 6
	wantJudgement(t, false, r)
}

// judge is P25.8 by its words, in the simplest way.
func judge(c api.Multi, r api.Run) (bool, api.Errno) {
	left, e := cellsOf(c, r.Words)
	if e != api.OK {
		return false, e
	}
	uses := map[int]int{}
	type made struct {
		api.Call
		at int
	}
	var list []made
	so := true
	for _, call := range r.Calls {
		args := map[api.Op]int{api.OpMulti: len(c.Swaps), api.OpMultiRead: len(c.Cells)}[call.Op]
		if call.Thread < 0 || call.Thread >= c.Threads || call.Arg < 0 || call.Arg >= args {
			return false, api.ErrMultiRun
		}
		d := call.Thread*c.Uses + uses[call.Thread]
		some, at := call.Point != -1, call.Point
		if call.Op == api.OpMulti {
			uses[call.Thread]++
			if call.End == -1 && !some {
				i := slices.IndexFunc(r.Trace, func(a api.Access) bool {
					return a.Kind == api.AccessSwap && a.Addr == statusAt(c, d) && a.Old == 0 && a.New == 1 && a.Saw == 0
				})
				if i >= 0 {
					some, at = true, r.Trace[i].Move
				}
			}
		}
		if uses[call.Thread] > c.Uses {
			return false, api.ErrMultiRun
		}
		so = so && (call.End == -1 || call.Point != -1)
		if some {
			so = so && at > call.Begin && (call.End == -1 || at <= call.End)
			so = so && !slices.ContainsFunc(list, func(m made) bool { return m.at == at })
			list = append(list, made{call, at})
		}
	}
	slices.SortFunc(list, func(a, b made) int { return cmp.Compare(a.at, b.at) })
	cells := slices.Clone(c.Cells)
	for _, m := range list {
		want := value(0)
		if m.Op == api.OpMultiRead {
			want = value(cells[m.Arg])
		} else {
			want = yes
			for _, e := range c.Swaps[m.Arg] {
				if cells[e.Cell] != e.Old {
					want = no
				}
			}
			for _, e := range c.Swaps[m.Arg] {
				if want == yes {
					cells[e.Cell] = e.New
				}
			}
		}
		so = so && (m.End == -1 || m.Answer == want)
	}
	return so && slices.Equal(cells, left), api.OK
}

// wantJudged asks that Holds is as its words say, and tells what was so.
func wantJudged(t *testing.T, c api.Multi, r api.Run) string {
	t.Helper()
	so, e := judge(c, r)
	if got, f := mcas.Holds(c, r); got != so || f != e {
		t.Fatalf("%+v: Holds(%+v) = %v, %d, not %v, %d", c, r, got, f, so, e)
	}
	switch {
	case e != api.OK:
		return "none"
	case so:
		return "true"
	}
	return "false"
}

// P25.8 of true runs, and of ones with a single thing that is another.
func TestHoldsOfSpoiltRuns(t *testing.T) {
	met, d := map[string]int{}, dice(77)
	eachChance(400, func(c api.Multi, moves []api.Move) {
		r := playOf(t, c, moves...)
		if wantJudged(t, c, r) != "true" {
			t.Fatal("a true run doesn't hold")
		}
		for range 25 {
			spoilt := cloneRun(r)
			switch roll := d.below(8); {
			case roll == 0:
				spoil(&d, c, spoilt.Words)
			case roll < 3 && len(r.Trace) > 0:
				spoilAccess(&d, c, &spoilt)
			case len(r.Calls) > 0:
				spoilCall(&d, &spoilt)
			}
			met[wantJudged(t, c, spoilt)]++
		}
	})
	wantMet(t, met, 500, "true", "false", "none")
}

// spoilCall makes a single thing of a call another.
func spoilCall(d *dice, r *api.Run) {
	call, other := &r.Calls[d.below(len(r.Calls))], r.Calls[d.below(len(r.Calls))]
	switch d.below(13) {
	case 0:
		call.Point += d.below(9) - 4
	case 1:
		call.Point = other.Point
	case 2:
		call.Point = none
	case 3:
		call.End, call.Point = none, none
	case 4:
		call.End = none
	case 5:
		call.End += d.below(9) - 4
	case 6:
		call.Begin += d.below(9) - 4
	case 7:
		call.Answer = other.Answer
	case 8:
		call.Answer.Value += d.below(3) - 1
	case 9:
		call.Arg = other.Arg
	case 10:
		call.Thread = other.Thread
	case 11:
		call.Op = api.OpMulti + api.Op(d.below(3))
	case 12:
		r.Calls = append(r.Calls, other)
	}
}

// spoilAccess makes a single thing of an access another, most of the time of a swap of a status.
func spoilAccess(d *dice, c api.Multi, r *api.Run) {
	a := &r.Trace[d.below(len(r.Trace))]
	for range 40 {
		if a.Kind != api.AccessSwap || a.Addr < len(c.Cells) {
			a = &r.Trace[d.below(len(r.Trace))]
		}
	}
	switch d.below(7) {
	case 0:
		a.Move += d.below(9) - 4
	case 1:
		a.Kind = api.AccessKind(d.below(5))
	case 2:
		a.Addr = statusAt(c, d.below(c.Threads*c.Uses))
	case 3:
		a.Old = uint64(d.below(3))
	case 4:
		a.Saw = uint64(d.below(3))
	case 5:
		a.New = uint64(d.below(3))
	case 6:
		r.Trace = append([]api.Access{*a}, r.Trace...)
	}
}
