package deque_test

import (
	"slices"
	"testing"

	"reclaim/api"
	"reclaim/deque"
)

// at is a call in a stretch of moves of its own: its point is a tenth.
func at(tenth int, op api.Op, arg int, a api.Answer) api.Call {
	return api.Call{Op: op, Arg: arg, Begin: 10*tenth - 4, End: 10*tenth + 4, Point: 10 * tenth, Answer: a}
}

// pushed, took and stole are calls that have ended; stole is thread 1's.

func pushed(tenth, v int, a api.Answer) api.Call { return at(tenth, api.OpDequePush, v, a) }

func took(tenth int, a api.Answer) api.Call { return at(tenth, api.OpDequeTake, 0, a) }

func stole(tenth int, a api.Answer) api.Call {
	return with(at(tenth, api.OpSteal, 0, a), func(c *api.Call) { c.Thread = 1 })
}

// onItsWay is the call, not ended, without an answer.
func onItsWay(c api.Call) api.Call {
	c.End, c.Answer = -1, api.Answer{}
	return c
}

func with(c api.Call, change func(c *api.Call)) api.Call {
	change(&c)
	return c
}

// long is a call that goes on from the first move to the last.
func long(c api.Call) api.Call {
	return with(c, func(c *api.Call) { c.Begin, c.End = 0, 99 })
}

// pointless is the call without a point.
func pointless(c api.Call) api.Call { return with(c, func(c *api.Call) { c.Point = -1 }) }

// runOf is a run of these calls, whose words may be.
func runOf(d api.Deque, calls ...api.Call) api.Run {
	return api.Run{Calls: calls, Words: make([]uint64, 2+d.Room)}
}

// small is the deque of the calls that are told by hand.
func small() api.Deque { return dequeOf(3, 2) }

func wantHolds(t *testing.T, so bool, calls ...api.Call) {
	t.Helper()
	if got, e := deque.Holds(small(), runOf(small(), calls...)); got != so || e != api.OK {
		t.Errorf("Holds(%+v) = %v, %d, not %v", calls, got, e, so)
	}
}

// wantNone asks that calls are none of the machine's, of Holds and of Spread.
func wantNone(t *testing.T, calls ...api.Call) {
	t.Helper()
	r := runOf(small(), calls...)
	if got, e := deque.Holds(small(), r); got || e != api.ErrDequeRun {
		t.Errorf("Holds(%+v) = %v, %d", calls, got, e)
	}
	if got, e := deque.Spread(small(), r); got != nil || e != api.ErrDequeRun {
		t.Errorf("Spread(%+v) = %v, %d", calls, got, e)
	}
}

// P21.6: answers that a deque would give.
func TestHoldsAnswers(t *testing.T) {
	wantHolds(t, true)
	wantHolds(t, true, took(1, empty))
	wantHolds(t, true, stole(1, empty))
	wantHolds(t, true, pushed(1, 5, done))
	wantHolds(t, true, pushed(1, 5, done), took(2, value(5)), took(3, empty), stole(4, empty))
	wantHolds(t, true, pushed(1, 5, done), stole(2, value(5)), took(3, empty), stole(4, empty))
	wantHolds(t, true, pushed(1, 5, done), pushed(2, 6, done), took(3, value(6)), took(4, value(5)), took(5, empty))
	wantHolds(t, true, pushed(1, 5, done), pushed(2, 6, done), stole(3, value(5)), stole(4, value(6)), stole(5, empty))
	wantHolds(t, true, pushed(1, 5, done), pushed(2, 6, done), stole(3, value(5)), took(4, value(6)), took(5, empty))
	wantHolds(t, true, pushed(1, 5, done), pushed(2, 6, done), pushed(3, 7, full), took(4, value(6)), pushed(5, 8, done), stole(6, value(5)), pushed(7, 9, done), pushed(8, 1, full))
	wantHolds(t, true, pushed(1, 5, done), stole(2, value(5)), pushed(3, 6, done), took(4, value(6)), pushed(5, 7, done), pushed(6, 8, done), stole(7, value(7)))
	wantHolds(t, true, pushed(1, 5, done), pushed(2, 5, done), took(3, value(5)), stole(4, value(5)))
	wantHolds(t, true, pushed(1, -1<<63, done), pushed(2, 0, done), took(3, value(0)), stole(4, value(-1<<63)))
	wantHolds(t, true, pushed(1, 5, done), with(stole(2, value(5)), func(c *api.Call) { c.Thread = 0 }))
	wantHolds(t, true, pushed(1, 5, done), with(stole(2, value(5)), func(c *api.Call) { c.Thread = 2 }))
}

// P21.6: a single answer that a deque would not give.
func TestHoldsWrongAnswers(t *testing.T) {
	one, two := pushed(1, 5, done), pushed(2, 6, done)
	wantHolds(t, false, took(1, value(5)))
	wantHolds(t, false, stole(1, value(0)))
	wantHolds(t, false, pushed(1, 5, full))
	wantHolds(t, false, one, took(2, empty))
	wantHolds(t, false, one, stole(2, empty))
	wantHolds(t, false, one, took(2, value(6)))
	wantHolds(t, false, one, stole(2, value(6)))
	wantHolds(t, false, one, two, took(3, value(5)))
	wantHolds(t, false, one, two, stole(3, value(6)))
	wantHolds(t, false, one, pushed(2, 6, full))
	wantHolds(t, false, one, two, pushed(3, 7, done))
	wantHolds(t, false, one, two, pushed(3, 7, full), took(4, value(7)))
	wantHolds(t, false, one, two, took(3, value(6)), pushed(4, 7, full))
	wantHolds(t, false, one, two, stole(3, value(5)), took(4, value(5)))
	wantHolds(t, false, one, took(2, value(5)), stole(3, value(5)))
	for kind := api.AnswerKind(-1); kind < 9; kind++ {
		a := api.Answer{Kind: kind}
		wantHolds(t, a == done, pushed(1, 5, a))
		wantHolds(t, a == full, one, two, pushed(3, 7, a))
		wantHolds(t, a == empty, took(1, a))
		wantHolds(t, a == empty, stole(1, a))
		wantHolds(t, a == value(0), pushed(1, 0, done), took(2, a))
		wantHolds(t, a == value(0), pushed(1, 0, done), stole(2, a))
		// A value beside another kind is no answer at all.
		a.Value = 5
		wantHolds(t, false, pushed(1, 5, a))
		wantHolds(t, false, one, two, pushed(3, 5, a))
		wantHolds(t, false, took(1, a))
		wantHolds(t, false, stole(1, a))
		wantHolds(t, a == value(5), one, took(2, a))
		wantHolds(t, a == value(5), one, stole(2, a))
	}
}

// P21.6: Room is that of the deque.
func TestHoldsRoom(t *testing.T) {
	for _, room := range []int{1, 2, 3, 7, api.MaxRoom} {
		d := dequeOf(1, room)
		var calls []api.Call
		for i := range room {
			calls = append(calls, pushed(1+i, i, done))
		}
		for _, last := range []api.Call{pushed(1+room, 9, full), pushed(1+room, 9, done)} {
			so, e := deque.Holds(d, runOf(d, append(slices.Clone(calls), last)...))
			if so != (last.Answer == full) || e != api.OK {
				t.Errorf("room %d, %+v: %v, %d", room, last, so, e)
			}
		}
		calls[room-1].Answer = full
		if so, e := deque.Holds(d, runOf(d, calls...)); so || e != api.OK {
			t.Errorf("room %d: full too early: %v, %d", room, so, e)
		}
	}
}

// P21.6: the order is that of the points, whatever the order in the list, of beginnings, of ends.
func TestHoldsByThePoints(t *testing.T) {
	calls := []api.Call{pushed(1, 5, done), pushed(2, 6, done), stole(3, value(5)), took(4, value(6)), took(5, empty)}
	for range 24 {
		for i, c := range calls {
			calls[i], calls[(i*3+1)%5] = calls[(i*3+1)%5], c
			wantHolds(t, true, calls...)
		}
	}
	wantHolds(t, true, long(stole(3, value(5))), long(pushed(2, 5, done)), long(took(1, empty)), long(took(4, empty)))
	wantHolds(t, false, long(stole(2, value(5))), long(pushed(3, 5, done)))
}

// P21.6: each point lies behind Begin, and not behind End.
func TestHoldsPointsOfTheirCalls(t *testing.T) {
	for _, call := range []api.Call{pushed(1, 5, done), took(1, empty), stole(1, empty)} {
		for point := -20; point < 40; point++ {
			for _, span := range [][2]int{{6, 14}, {9, 10}, {10, 10}, {10, 9}, {0, 10}, {-30, 30}, {-30, -2}, {14, 6}} {
				c := with(call, func(c *api.Call) { c.Begin, c.End, c.Point = span[0], span[1], point })
				wantHolds(t, point == -1 || point > span[0] && point <= span[1], c)
				wantHolds(t, point == -1 || point > span[0], onItsWay(c))
			}
		}
	}
	least, most := -1<<63, 1<<63-1
	at := func(begin, end, point int) api.Call {
		return api.Call{Op: api.OpSteal, Begin: begin, End: end, Point: point, Answer: empty}
	}
	wantHolds(t, true, at(least, most, 0))
	wantHolds(t, true, at(least, most, most))
	wantHolds(t, true, at(least, least+1, least+1))
	wantHolds(t, false, at(least, most, least))
	wantHolds(t, false, at(most, most, most))
	wantHolds(t, false, at(most, least, 0))
	wantHolds(t, true, at(least, most, least+1), at(least, most, most))
}

// P21.6: a call without a point is not looked at, whether it has ended or not.
func TestHoldsMissingPoints(t *testing.T) {
	for _, without := range []api.Call{
		pointless(pushed(1, 5, done)), pointless(pushed(1, 5, full)), pointless(pushed(1, 5, value(8))),
		pointless(took(1, value(7))), pointless(stole(1, value(7))),
		pointless(onItsWay(pushed(1, 5, done))), pointless(onItsWay(took(1, done))), pointless(onItsWay(stole(1, done))),
		pointless(with(took(1, empty), func(c *api.Call) { c.Begin, c.End = 50, 3 })),
		pointless(with(took(1, empty), func(c *api.Call) { c.Begin, c.End = -7, -5 })),
	} {
		wantHolds(t, true, without)
		wantHolds(t, true, without, without, without)
		wantHolds(t, true, took(3, empty), without, stole(4, empty))
		wantHolds(t, true, pushed(1, 9, done), without, stole(2, value(9)), without, took(3, empty))
		wantHolds(t, false, pushed(1, 9, done), without, stole(2, value(5)))
	}
}

// P21.6: a call with a point that has not ended does what it does, whatever its answer is.
func TestHoldsCallsOnTheirWay(t *testing.T) {
	for kind := api.AnswerKind(-1); kind < 9; kind++ {
		a := api.Answer{Kind: kind, Value: 9}
		on := func(c api.Call) api.Call {
			return with(onItsWay(c), func(c *api.Call) { c.Answer = a })
		}
		put := on(pushed(1, 5, done))
		wantHolds(t, true, put, took(2, value(5)))
		wantHolds(t, true, put, stole(2, value(5)))
		wantHolds(t, false, put, took(2, empty))
		for _, out := range []api.Call{on(took(2, done)), on(stole(2, done))} {
			wantHolds(t, true, put, out, took(3, empty))
			wantHolds(t, false, put, out, took(3, value(5)))
			wantHolds(t, true, out, pushed(3, 1, done), took(4, value(1)))
		}
		one, two := pushed(1, 5, done), pushed(2, 6, done)
		wantHolds(t, true, one, two, on(took(3, done)), took(4, value(5)))
		wantHolds(t, true, one, two, on(stole(3, done)), stole(4, value(6)))
		wantHolds(t, false, one, two, on(took(3, done)), stole(4, value(6)))
		wantHolds(t, false, one, two, on(stole(3, done)), took(4, value(5)))
		// A push that finds no room does nothing.
		wantHolds(t, true, one, two, on(pushed(3, 7, done)), took(4, value(6)), took(5, value(5)), took(6, empty))
		wantHolds(t, false, one, two, on(pushed(3, 7, done)), took(4, value(7)))
		wantHolds(t, true, one, on(pushed(2, 7, done)), took(3, value(7)), took(4, value(5)))
	}
}

// P21.6: an End below -1 is an end.
func TestHoldsOddEnds(t *testing.T) {
	early := func(c api.Call) api.Call {
		return with(c, func(c *api.Call) { c.Begin, c.End, c.Point = -9, -5, -6 })
	}
	wantHolds(t, true, early(took(1, empty)))
	wantHolds(t, false, early(took(1, value(4))))
	wantHolds(t, true, early(pushed(1, 5, done)), took(1, value(5)))
	wantHolds(t, false, with(took(1, empty), func(c *api.Call) { c.End = -2 }))
}

// P21.6: two calls that have the same point are none of the machine's runs, whatever they are, but a steal
// and a take.
func TestHoldsSamePoints(t *testing.T) {
	p, k, s := long(pushed(1, 5, done)), long(took(1, empty)), long(stole(1, empty))
	wantNone(t, p, p)
	wantNone(t, k, k)
	wantNone(t, s, s)
	wantNone(t, s, with(s, func(c *api.Call) { c.Thread = 2 }))
	wantNone(t, p, k)
	wantNone(t, k, p)
	wantNone(t, p, s)
	wantNone(t, s, p)
	for _, three := range [][]api.Call{{p, k, s}, {p, s, k}, {k, p, s}, {k, s, p}, {s, p, k}, {s, k, p},
		{s, s, k}, {s, k, s}, {k, s, s}, {k, k, s}, {k, s, k}, {s, k, k}} {
		wantNone(t, three...)
	}
	wantNone(t, onItsWay(k), onItsWay(k))
	wantNone(t, onItsWay(s), s)
	wantNone(t, pushed(2, 5, done), took(3, value(5)), with(took(4, empty), func(c *api.Call) { c.Point = 20 }))
	odd := func(point int) func(c *api.Call) { return func(c *api.Call) { c.Point = point } }
	for _, point := range []int{-2, 0, -1 << 63, 1<<63 - 1} {
		wantNone(t, with(s, odd(point)), with(s, odd(point)))
		wantNone(t, with(s, odd(point)), stole(2, empty), with(p, odd(point)))
	}
	wantHolds(t, true, k, with(k, odd(11)))
	wantHolds(t, true, pointless(p), pointless(p), pointless(k), pointless(k), pointless(s), pointless(s))
}

// P21.6: of a steal and a take that have the same point the steal comes first, wherever they stand.
func TestHoldsStealAndTakeAtOnePoint(t *testing.T) {
	both := func(so bool, steal, take api.Answer, ahead ...api.Call) {
		t.Helper()
		k, s := long(took(5, take)), long(stole(5, steal))
		wantHolds(t, so, append(ahead, k, s)...)
		wantHolds(t, so, append(ahead, s, k)...)
		wantHolds(t, so, append([]api.Call{k, s}, ahead...)...)
		wantHolds(t, so, append([]api.Call{s, k}, ahead...)...)
	}
	both(true, empty, empty)
	both(false, value(5), empty)
	one, two := pushed(1, 5, done), pushed(2, 6, done)
	both(true, value(5), empty, one)
	both(false, empty, value(5), one)
	both(false, value(5), value(5), one)
	both(false, empty, empty, one)
	both(true, value(5), value(6), one, two)
	both(false, value(6), value(5), one, two)
	// The take has not ended: it finds nothing behind the steal.
	wantHolds(t, true, one, onItsWay(took(2, done)), stole(2, value(5)), took(3, empty))
	wantHolds(t, true, one, two, onItsWay(took(3, done)), stole(3, value(5)), took(4, empty))
	wantHolds(t, false, one, onItsWay(took(2, done)), stole(2, empty))
	// Several such points.
	wantHolds(t, true, one, long(took(2, empty)), long(stole(2, value(5))), pushed(3, 6, done), long(took(4, empty)), long(stole(4, value(6))))
}

// P21.6, P21.7: ops that are none of the three, and threads that don't make them, whether the call has a
// point or not, and has ended or not.
func TestHoldsOpsAndThreads(t *testing.T) {
	good := []api.Call{pushed(1, 5, done), stole(2, value(5))}
	wantHolds(t, true, good...)
	for op := api.Op(-2); op < 200; op++ {
		if op == api.OpDequePush || op == api.OpDequeTake || op == api.OpSteal {
			continue
		}
		odd := at(3, op, 0, empty)
		for _, c := range []api.Call{odd, pointless(odd), onItsWay(odd), pointless(onItsWay(odd))} {
			wantNone(t, c)
			wantNone(t, append(slices.Clone(good), c)...)
			wantNone(t, append([]api.Call{c}, good...)...)
		}
	}
	for _, call := range []api.Call{pushed(3, 5, done), took(3, empty), stole(3, empty)} {
		for _, thread := range []int{-1 << 63, -2, -1, 0, 1, 2, 3, 4, 15, 16, 1<<63 - 1} {
			odd := with(call, func(c *api.Call) { c.Thread = thread })
			so := thread == 0 || call.Op == api.OpSteal && (thread == 1 || thread == 2)
			for _, c := range []api.Call{odd, pointless(odd), onItsWay(odd), pointless(onItsWay(odd))} {
				if so {
					wantHolds(t, true, append(slices.Clone(good), c)...)
				} else {
					wantNone(t, append(slices.Clone(good), c)...)
					wantNone(t, c, good[0])
				}
			}
		}
	}
}

// P21.6: what stands in the words at the end is not asked, as long as they are a deque's; nor is what else
// the run has.
func TestHoldsLooksAtNothingElse(t *testing.T) {
	d := small()
	for _, words := range [][]uint64{wordsOf(0, 2, 8, 9), wordsOf(7, 6, 1, 1), wordsOf(api.MaxMoves, api.MaxMoves+2, 0, 0)} {
		for _, last := range []api.Call{took(2, value(5)), took(2, empty)} {
			r := api.Run{
				Calls:  []api.Call{pushed(1, 5, done), with(last, func(c *api.Call) { c.Arg, c.Data = 8, 9 })},
				Trace:  []api.Access{{Move: -3, Thread: 99, Kind: 7, Addr: -1}},
				Shifts: []api.Shift{{Slot: 88, From: 3, To: 9}},
				Words:  words,
			}
			if so, e := deque.Holds(d, r); so != (last.Answer == value(5)) || e != api.OK {
				t.Errorf("Holds = %v, %d", so, e)
			}
			r.Words = append(slices.Clone(words), 0)
			if so, e := deque.Holds(d, r); so || e != api.ErrDequeRun {
				t.Errorf("Holds = %v, %d", so, e)
			}
		}
	}
}

// judge is P21.6 by its words, in the simplest way.
func judge(d api.Deque, r api.Run) (bool, api.Errno) {
	for i, c := range r.Calls {
		if c.Op < api.OpDequePush || c.Op > api.OpSteal || c.Op != api.OpSteal && c.Thread != 0 || c.Thread < 0 || c.Thread >= d.Threads {
			return false, api.ErrDequeRun
		}
		for _, o := range r.Calls[:i] {
			mixed := c.Op == api.OpSteal && o.Op == api.OpDequeTake || o.Op == api.OpSteal && c.Op == api.OpDequeTake
			if c.Point != -1 && c.Point == o.Point && !mixed {
				return false, api.ErrDequeRun
			}
		}
	}
	if _, e := deque.Left(d, r.Words); e != api.OK {
		return false, e
	}
	calls := slices.DeleteFunc(slices.Clone(r.Calls), func(c api.Call) bool { return c.Point == -1 })
	for _, c := range calls {
		if c.Point <= c.Begin || c.End != -1 && c.Point > c.End {
			return false, api.OK
		}
	}
	var values []int
	for len(calls) > 0 {
		next := 0
		for i, c := range calls {
			if n := calls[next]; c.Point < n.Point || c.Point == n.Point && c.Op == api.OpSteal {
				next = i
			}
		}
		c := calls[next]
		calls = slices.Delete(calls, next, next+1)
		var want api.Answer
		switch n := len(values); {
		case c.Op == api.OpDequePush && n == d.Room:
			want = full
		case c.Op == api.OpDequePush:
			want, values = done, append(values, c.Arg)
		case n == 0:
			want = empty
		case c.Op == api.OpDequeTake:
			want, values = value(values[n-1]), values[:n-1]
		default:
			want, values = value(values[0]), values[1:]
		}
		if c.End != -1 && c.Answer != want {
			return false, api.OK
		}
	}
	return true, api.OK
}

// counted is P21.7 by its words.
func counted(d api.Deque, r api.Run) []int {
	counts := make([]int, d.Threads)
	for thread := range counts {
		for _, c := range r.Calls {
			if c.Thread == thread && c.Answer.Kind == api.AnswerValue {
				counts[thread]++
			}
		}
	}
	return counts
}

// wantJudged asks that Holds and Spread are as their words say, and tells what was so.
func wantJudged(t *testing.T, d api.Deque, r api.Run) string {
	t.Helper()
	so, e := judge(d, r)
	if got, f := deque.Holds(d, r); got != so || f != e {
		t.Fatalf("Holds = %v, %d, not %v, %d: %+v", got, f, so, e, r.Calls)
	}
	var counts []int
	if e == api.OK {
		counts = counted(d, r)
	}
	if got, f := deque.Spread(d, r); !slices.Equal(got, counts) || f != e {
		t.Fatalf("Spread = %v, %d, not %v, %d: %+v", got, f, counts, e, r.Calls)
	}
	switch {
	case e != api.OK:
		return "error"
	case so:
		return "true"
	}
	return "false"
}

// P21.6, P21.7 of runs of which a single thing was made another: as their words say.
func TestHoldsOfChangedRuns(t *testing.T) {
	c := dice(77)
	met := map[string]int{}
	eachChance(120, func(d api.Deque, moves []api.Move) {
		r := playOf(t, d, moves...)
		for range 30 {
			if len(r.Calls) == 0 {
				return
			}
			changed := r
			changed.Calls = slices.Clone(r.Calls)
			changeOne(&c, d, changed.Calls)
			met[wantJudged(t, d, changed)]++
		}
	})
	if met["true"] < 300 || met["false"] < 300 || met["error"] < 300 {
		t.Errorf("met %v", met)
	}
}

// changeOne makes a single thing of a call another.
func changeOne(c *dice, d api.Deque, calls []api.Call) {
	call := &calls[c.below(len(calls))]
	other := calls[c.below(len(calls))]
	switch c.below(10) {
	case 0:
		call.Point += c.below(5) - 2
	case 1:
		call.Point = -1
	case 2:
		call.Point = other.Point
	case 3:
		call.Answer.Kind = api.AnswerKind(c.below(7))
	case 4:
		call.Answer.Value = other.Arg
	case 5:
		call.End = -1
	case 6:
		call.Arg = other.Arg
	case 7:
		call.Op = api.OpDequePush - 1 + api.Op(c.below(5))
	case 8:
		call.Thread = c.below(d.Threads+2) - 1
	case 9:
		call.Begin = other.Point
	}
}
