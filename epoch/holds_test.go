package epoch_test

import (
	"slices"
	"testing"

	"reclaim/api"
	"reclaim/epoch"
)

// stowed and drew are calls that have ended, each in a stretch of moves of its own: its point is a tenth.
func stowed(tenth, v int, a api.Answer) api.Call {
	return api.Call{Op: api.OpStow, Arg: v, Begin: 10*tenth - 4, End: 10*tenth + 4, Point: 10 * tenth, Answer: a}
}

func drew(tenth int, a api.Answer) api.Call {
	return api.Call{Op: api.OpDraw, Begin: 10*tenth - 4, End: 10*tenth + 4, Point: 10 * tenth, Answer: a}
}

// onItsWay is the call, not ended, without an answer.
func onItsWay(c api.Call) api.Call {
	c.End, c.Answer = -1, api.Answer{}
	return c
}

func with(c api.Call, change func(c *api.Call)) api.Call {
	change(&c)
	return c
}

func wantHolds(t *testing.T, so bool, calls ...api.Call) {
	t.Helper()
	r := api.Run{Calls: calls}
	if got, e := epoch.Holds(example(), r); got != so || e != api.OK {
		t.Errorf("Holds(%+v) = %v, %d, not %v", calls, got, e, so)
	}
}

// P20.3: answers that a stack would give.
func TestHoldsAnswers(t *testing.T) {
	wantHolds(t, true)
	wantHolds(t, true, drew(1, empty))
	wantHolds(t, true, stowed(1, 5, done))
	wantHolds(t, true, stowed(1, 5, done), drew(2, value(5)))
	wantHolds(t, true, stowed(1, 5, done), stowed(2, 6, done), drew(3, value(6)), drew(4, value(5)), drew(5, empty), drew(6, empty))
	wantHolds(t, true, stowed(1, 5, done), drew(2, value(5)), stowed(3, 6, done), drew(4, value(6)), drew(5, empty))
	wantHolds(t, true, stowed(1, 5, done), stowed(2, 5, done), drew(3, value(5)), drew(4, value(5)))
	wantHolds(t, true, stowed(1, 5, done), stowed(2, 6, full), drew(3, value(5)), drew(4, empty))
	wantHolds(t, true, stowed(1, 5, full), drew(2, empty))
	wantHolds(t, true, stowed(1, -1<<63, done), stowed(2, 0, done), drew(3, value(0)), drew(4, value(-1<<63)))
	// As many stows as there are no slots for: how many there are is not looked at.
	wantHolds(t, true, stowed(1, 1, done), stowed(2, 2, done), stowed(3, 3, done), stowed(4, 4, done), drew(5, value(4)))
}

// P20.3: a single answer that a stack would not give.
func TestHoldsWrongAnswers(t *testing.T) {
	wantHolds(t, false, drew(1, value(5)))
	wantHolds(t, false, drew(1, value(0)))
	wantHolds(t, false, stowed(1, 5, done), drew(2, empty))
	wantHolds(t, false, stowed(1, 5, done), drew(2, value(6)))
	wantHolds(t, false, stowed(1, 5, done), stowed(2, 6, done), drew(3, value(5)))
	wantHolds(t, false, stowed(1, 5, done), stowed(2, 6, done), drew(3, value(6)), drew(4, value(6)))
	wantHolds(t, false, stowed(1, 5, done), stowed(2, 6, full), drew(3, value(6)))
	wantHolds(t, false, stowed(1, 5, full), drew(2, value(5)))
	wantHolds(t, false, stowed(1, 5, done), drew(2, value(5)), drew(3, value(5)))
	for kind := api.AnswerKind(-1); kind < 9; kind++ {
		a := api.Answer{Kind: kind}
		wantHolds(t, a == done || a == full, stowed(1, 5, a))
		wantHolds(t, a == empty, drew(1, a))
		wantHolds(t, a == value(0), stowed(1, 0, done), drew(2, a))
		// A value beside another kind is no answer at all.
		a.Value = 5
		wantHolds(t, false, stowed(1, 5, a))
		wantHolds(t, false, drew(1, a))
		wantHolds(t, a == value(5), stowed(1, 5, done), drew(2, a))
	}
}

// P20.3: the order is that of the points, whatever the order in the list, of beginnings, of ends, of threads.
func TestHoldsByThePoints(t *testing.T) {
	calls := []api.Call{stowed(1, 5, done), stowed(2, 6, done), drew(3, value(6)), drew(4, value(5)), drew(5, empty)}
	for range 24 {
		for i, c := range calls {
			calls[i], calls[(i*3+1)%5] = calls[(i*3+1)%5], c
			wantHolds(t, true, calls...)
		}
	}
	long := func(c api.Call) api.Call { return with(c, func(c *api.Call) { c.Begin, c.End = 0, 99 }) }
	wantHolds(t, true, long(drew(3, value(5))), long(stowed(2, 5, done)), long(drew(1, empty)), long(drew(4, empty)))
}

// P20.3: each point lies above Begin, and not above End.
func TestHoldsPointsOfTheirCalls(t *testing.T) {
	for _, call := range []api.Call{stowed(1, 5, done), stowed(1, 5, full), drew(1, empty)} {
		for point := -20; point < 40; point++ {
			for _, span := range [][2]int{{6, 14}, {9, 10}, {10, 10}, {10, 9}, {0, 10}, {-30, 30}, {-30, -2}, {14, 6}} {
				c := with(call, func(c *api.Call) { c.Begin, c.End, c.Point = span[0], span[1], point })
				wantHolds(t, point != -1 && point > span[0] && point <= span[1], c)
				wantHolds(t, point == -1 || point > span[0], onItsWay(c))
			}
		}
	}
	least, most := -1<<63, 1<<63-1
	at := func(begin, end, point int) api.Call {
		return api.Call{Op: api.OpDraw, Begin: begin, End: end, Point: point, Answer: empty}
	}
	wantHolds(t, true, at(least, most, 0))
	wantHolds(t, true, at(least, most, most))
	wantHolds(t, true, at(least, least+1, least+1))
	wantHolds(t, false, at(least, most, least))
	wantHolds(t, false, at(most, most, most))
	wantHolds(t, false, at(most, least, 0))
	wantHolds(t, true, at(least, most, least+1), at(least, most, most))
}

// P20.3: a call that has ended has a point; one that has not may have none, and then does nothing.
func TestHoldsMissingPoints(t *testing.T) {
	none := func(c api.Call) api.Call { return with(c, func(c *api.Call) { c.Point = -1 }) }
	wantHolds(t, false, none(stowed(1, 5, done)))
	wantHolds(t, false, none(stowed(1, 5, full)))
	wantHolds(t, false, none(drew(1, empty)))
	wantHolds(t, false, stowed(1, 5, done), none(drew(2, value(5))))
	wantHolds(t, false, none(with(drew(1, empty), func(c *api.Call) { c.End = -2 })))
	wantHolds(t, true, none(onItsWay(stowed(1, 5, done))), drew(2, empty))
	wantHolds(t, true, stowed(1, 5, done), none(onItsWay(drew(2, done))), drew(3, value(5)))
	wantHolds(t, true, none(onItsWay(drew(1, done))), none(onItsWay(stowed(1, 5, done))), none(onItsWay(drew(1, done))))
	wantHolds(t, false, none(onItsWay(stowed(1, 5, done))), drew(2, value(5)))
}

// P20.3: a call with a point that has not ended does what it does, whatever its answer is.
func TestHoldsCallsOnTheirWay(t *testing.T) {
	wantHolds(t, true, onItsWay(stowed(1, 5, done)), drew(2, value(5)))
	wantHolds(t, false, onItsWay(stowed(1, 5, done)), drew(2, empty))
	wantHolds(t, true, stowed(1, 5, done), onItsWay(drew(2, done)), drew(3, empty))
	wantHolds(t, false, stowed(1, 5, done), onItsWay(drew(2, done)), drew(3, value(5)))
	wantHolds(t, true, onItsWay(drew(1, done)), stowed(2, 5, done), drew(3, value(5)))
	for kind := api.AnswerKind(-1); kind < 9; kind++ {
		a := api.Answer{Kind: kind, Value: 9}
		put := with(onItsWay(stowed(1, 5, done)), func(c *api.Call) { c.Answer = a })
		took := with(onItsWay(drew(2, done)), func(c *api.Call) { c.Answer = a })
		wantHolds(t, true, put, drew(2, value(5)))
		wantHolds(t, true, put, took, drew(3, empty))
		wantHolds(t, false, put, drew(2, empty))
		wantHolds(t, true, took, stowed(3, 1, done), drew(4, value(1)))
	}
}

// P20.3: no two points are the same, whatever the calls; -1 is no point.
func TestHoldsPointsApart(t *testing.T) {
	wantHolds(t, false, drew(1, empty), drew(1, empty))
	wantHolds(t, false, stowed(1, 5, full), drew(1, empty))
	wantHolds(t, false, drew(1, empty), stowed(2, 5, done), drew(3, value(5)), with(drew(1, empty), func(c *api.Call) { c.Thread = 1 }))
	wantHolds(t, false, onItsWay(drew(1, empty)), onItsWay(drew(1, empty)))
	wantHolds(t, false, stowed(2, 5, done), with(drew(3, value(5)), func(c *api.Call) { c.Begin, c.Point = 1, 20 }))
	wantHolds(t, true, drew(1, empty), with(drew(1, empty), func(c *api.Call) { c.Point++ }))
	none := with(onItsWay(drew(1, empty)), func(c *api.Call) { c.Point = -1 })
	wantHolds(t, true, none, none, none)
}

// P20.3: calls of other ops, and what else the run has, are not looked at.
func TestHoldsLooksAtNothingElse(t *testing.T) {
	for op := api.Op(-2); op < 200; op++ {
		if op == api.OpStow || op == api.OpDraw {
			continue
		}
		odd := api.Call{Thread: -3, Op: op, Arg: 7, Begin: 50, End: 3, Point: 20, Answer: value(9)}
		wantHolds(t, true, odd)
		wantHolds(t, true, odd, stowed(1, 5, done), odd, drew(2, value(5)), odd)
		wantHolds(t, false, odd, stowed(1, 5, done), odd, drew(2, empty), odd)
	}
	r := api.Run{
		Calls:  []api.Call{with(drew(1, empty), func(c *api.Call) { c.Thread, c.Arg, c.Data = 77, 8, 9 })},
		Trace:  []api.Access{{Move: -3, Thread: 99, Kind: 7, Addr: -1}},
		Shifts: []api.Shift{{Slot: 88, From: 3, To: 9}},
		Words:  []uint64{1, 2, 3},
	}
	if so, e := epoch.Holds(example(), r); !so || e != api.OK {
		t.Errorf("Holds = %v, %d", so, e)
	}
}

// explains is P20.3 by its words, in the simplest way.
func explains(r api.Run) bool {
	calls := slices.DeleteFunc(slices.Clone(r.Calls), func(c api.Call) bool { return c.Op != api.OpStow && c.Op != api.OpDraw })
	for i, c := range calls {
		if c.Point != -1 && (c.Point <= c.Begin || c.End != -1 && c.Point > c.End) || c.End != -1 && c.Point == -1 {
			return false
		}
		for _, other := range calls[:i] {
			if c.Point != -1 && c.Point == other.Point {
				return false
			}
		}
	}
	var stack []int
	for {
		next := -1
		for i, c := range calls {
			if c.Point != -1 && (next < 0 || c.Point < calls[next].Point) {
				next = i
			}
		}
		if next < 0 {
			return true
		}
		c := calls[next]
		calls = slices.Delete(calls, next, next+1)
		switch n := len(stack); {
		case c.Op == api.OpStow && c.Answer == full && c.End != -1:
		case c.Op == api.OpStow:
			if c.End != -1 && c.Answer != done {
				return false
			}
			stack = append(stack, c.Arg)
		case n == 0:
			if c.End != -1 && c.Answer != empty {
				return false
			}
		default:
			if c.End != -1 && c.Answer != value(stack[n-1]) {
				return false
			}
			stack = stack[:n-1]
		}
	}
}

// P20.3 of runs of which a single thing was made another: as its words say.
func TestHoldsOfChangedRuns(t *testing.T) {
	d := dice(77)
	met := map[bool]int{}
	eachChance(80, func(c api.Config, moves []api.Move) {
		r := playOf(t, c, moves...)
		for range 30 {
			if len(r.Calls) == 0 {
				return
			}
			changed := r
			changed.Calls = slices.Clone(r.Calls)
			call := &changed.Calls[d.below(len(r.Calls))]
			switch d.below(8) {
			case 0:
				call.Point += d.below(5) - 2
			case 1:
				call.Point = -1
			case 2:
				call.Point = r.Calls[d.below(len(r.Calls))].Point
			case 3:
				call.Answer.Kind = api.AnswerKind(d.below(7))
			case 4:
				call.Answer.Value = d.below(9)
			case 5:
				call.End = -1
			case 6:
				call.Arg = d.below(9)
			case 7:
				call.Op = api.OpPin + api.Op(d.below(6))
			}
			want := explains(changed)
			met[want]++
			if got, e := epoch.Holds(c, changed); got != want || e != api.OK {
				t.Fatalf("Holds = %v, %d, not %v: %+v", got, e, want, changed.Calls)
			}
		}
	})
	if met[true] < 300 || met[false] < 300 {
		t.Errorf("met %v", met)
	}
}
