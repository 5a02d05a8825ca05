package split_test

import (
	"slices"
	"testing"

	"reclaim/api"
	"reclaim/model"
	"reclaim/split"
)

// at is a call in a stretch of moves of its own: its point is a tenth.
func at(tenth int, op api.Op, key, data int, a api.Answer) api.Call {
	return api.Call{Op: op, Arg: key, Data: data, Begin: 10*tenth - 4, End: 10*tenth + 4, Point: 10 * tenth, Answer: a}
}

// added, got and removed are calls that have ended; what is added is ten times the key.

func added(tenth, key int, a api.Answer) api.Call { return at(tenth, api.OpAdd, key, 10*key, a) }

func got(tenth, key int, a api.Answer) api.Call { return at(tenth, api.OpGet, key, 0, a) }

func removed(tenth, key int, a api.Answer) api.Call { return at(tenth, api.OpRemove, key, 0, a) }

func with(c api.Call, change func(c *api.Call)) api.Call {
	change(&c)
	return c
}

// onItsWay is the call, not ended, without an answer.
func onItsWay(c api.Call) api.Call {
	return with(c, func(c *api.Call) { c.End, c.Answer = -1, api.Answer{} })
}

// long is a call that goes on from the first move to the last.
func long(c api.Call) api.Call {
	return with(c, func(c *api.Call) { c.Begin, c.End = 0, 99 })
}

// pointless is the call without a point.
func pointless(c api.Call) api.Call { return with(c, func(c *api.Call) { c.Point = -1 }) }

// small is the table of the calls that are told by hand.
func small() api.Split { return pair(8, 2, 1) }

// wordsOf are words whose table has these pairs, by their places.
func wordsOf(t *testing.T, pairs ...api.Pair) []uint64 {
	t.Helper()
	p := paperOf(t, small())
	slices.SortFunc(pairs, func(a, b api.Pair) int { return int(keyAt(a.Key)) - int(keyAt(b.Key)) })
	last := rootAt
	for slot, x := range pairs {
		p.put(last, link(slot)).slot(slot, keyAt(x.Key), x.Value, 0)
		last = linkAt(p.s, slot)
	}
	return p.words
}

// tens are pairs of keys with ten times themselves.
func tens(keys ...int) []api.Pair {
	var pairs []api.Pair
	for _, key := range keys {
		pairs = append(pairs, api.Pair{Key: key, Value: 10 * key})
	}
	return pairs
}

// wantHolds asks whether calls are explained that leave these pairs.
func wantHolds(t *testing.T, so bool, left []api.Pair, calls ...api.Call) {
	t.Helper()
	r := api.Run{Calls: calls, Words: wordsOf(t, left...)}
	if got, e := split.Holds(small(), r); got != so || e != api.OK {
		t.Errorf("Holds(%+v), left %v = %v, %d, not %v", calls, left, got, e, so)
	}
}

// P23.9: answers that a table would give.
func TestHoldsAnswers(t *testing.T) {
	wantHolds(t, true, nil)
	wantHolds(t, true, nil, got(1, 5, no))
	wantHolds(t, true, nil, removed(1, 5, no))
	wantHolds(t, true, tens(5), added(1, 5, yes))
	wantHolds(t, true, tens(5), added(1, 5, yes), added(2, 5, no), got(3, 5, value(50)))
	wantHolds(t, true, tens(5), added(1, 5, yes), at(2, api.OpAdd, 5, 7, no), got(3, 5, value(50)))
	wantHolds(t, true, nil, added(1, 5, yes), removed(2, 5, value(50)), got(3, 5, no), removed(4, 5, no))
	wantHolds(t, true, []api.Pair{{Key: 5, Value: -7}}, added(1, 5, yes), removed(2, 5, value(50)), at(3, api.OpAdd, 5, -7, yes))
	wantHolds(t, true, tens(0, 5, 6, api.MaxSplitKey), added(1, 5, yes), added(2, 0, yes), added(3, api.MaxSplitKey, yes), added(4, 6, yes), got(5, 7, no))
	wantHolds(t, true, tens(5), added(1, 5, full), added(2, 5, yes), added(3, 5, full), added(4, 6, full))
}

// P23.9: a single answer that a table would not give.
func TestHoldsWrongAnswers(t *testing.T) {
	one := added(1, 5, yes)
	for _, c := range []api.Call{
		added(2, 5, yes), got(2, 5, no), got(2, 5, value(5)), got(2, 6, value(50)), got(2, 5, yes), got(2, 5, full), got(2, 5, done),
		added(2, 5, done), added(2, 5, value(50)), added(2, 5, empty),
	} {
		wantHolds(t, false, tens(5), one, c)
	}
	for _, c := range []api.Call{removed(2, 5, no), removed(2, 5, yes), removed(2, 5, value(5)), removed(2, 5, value(0)), removed(2, 5, full), removed(2, 5, empty)} {
		wantHolds(t, false, nil, one, c)
		wantHolds(t, false, tens(5), one, c)
	}
	wantHolds(t, false, nil, added(1, 5, no))
	wantHolds(t, false, tens(5), added(1, 5, no))
	wantHolds(t, false, nil, got(1, 5, value(50)))
	wantHolds(t, false, nil, removed(1, 5, value(50)))
	// A value beside another kind is no answer at all, but for Full, which is told by its kind alone.
	wantHolds(t, false, tens(5), added(1, 5, api.Answer{Kind: api.AnswerYes, Value: 1}))
	wantHolds(t, false, nil, got(1, 5, api.Answer{Kind: api.AnswerNo, Value: 1}))
	wantHolds(t, true, nil, added(1, 5, api.Answer{Kind: api.AnswerFull, Value: 1}))
}

// P23.9: one that has ended with AnswerNone may, as Allows has it: it does what the call does.
func TestHoldsOfAnswerNone(t *testing.T) {
	none := api.Answer{}
	wantHolds(t, true, tens(5), added(1, 5, none))
	wantHolds(t, false, nil, added(1, 5, none))
	wantHolds(t, true, tens(5), added(1, 5, none), added(2, 5, none), got(3, 5, none), got(4, 6, none))
	wantHolds(t, true, nil, added(1, 5, yes), removed(2, 5, none), removed(3, 5, none))
	wantHolds(t, false, tens(5), added(1, 5, yes), removed(2, 5, none))
}

// P23.9: the words hold something else than what the calls leave.
func TestHoldsOtherWords(t *testing.T) {
	calls := []api.Call{added(1, 5, yes), added(2, 6, yes), added(3, 7, yes), removed(4, 6, value(60))}
	wantHolds(t, true, tens(5, 7), calls...)
	for _, left := range [][]api.Pair{
		nil, tens(5), tens(7), tens(5, 6), tens(5, 6, 7), tens(5, 8), tens(5, 7, 8), {{Key: 5, Value: 50}, {Key: 7, Value: 71}}, {{Key: 5, Value: 5}, {Key: 7, Value: 70}},
	} {
		wantHolds(t, false, left, calls...)
	}
	wantHolds(t, false, tens(5))
	// A key with a mark is none of those that the words hold; buckets, count and size are nobody's calls'.
	s := small()
	p := &paper{s, wordsOf(t, tens(5, 7)...)}
	last := linkAt(s, 1)
	p.put(last, marked(-1)).put(countAt(s), 77).put(sizeAt(s), 2)
	gone := slotKey(p, 1)
	for key := range 9 {
		r := api.Run{Words: p.words, Calls: []api.Call{added(1, 5, yes), added(2, 7, yes), removed(3, key, value(10*key))}}
		if so, e := split.Holds(s, r); so != (key == gone) || e != api.OK {
			t.Errorf("key %d: Holds = %v, %d", key, so, e)
		}
	}
}

// slotKey is the key of a slot of a paper.
func slotKey(p *paper, slot int) int {
	key, _ := split.Key(int(p.words[valueAt(p.s, slot)]))
	return key
}

// P23.9: the order is that of the points, whatever the order in the list, of beginnings, of ends.
func TestHoldsByThePoints(t *testing.T) {
	calls := []api.Call{added(1, 5, yes), got(2, 5, value(50)), removed(3, 5, value(50)), got(4, 5, no), added(5, 5, yes)}
	for range 24 {
		for i, c := range calls {
			calls[i], calls[(i*3+1)%5] = calls[(i*3+1)%5], c
			wantHolds(t, true, tens(5), calls...)
		}
	}
	wantHolds(t, true, nil, long(removed(3, 5, value(50))), long(added(2, 5, yes)), long(got(1, 5, no)), long(got(4, 5, no)))
	wantHolds(t, false, nil, long(removed(2, 5, value(50))), long(added(3, 5, yes)))
	wantHolds(t, false, tens(5), long(removed(2, 5, value(50))), long(added(3, 5, yes)))
}

// P23.9: no two calls have the same point, whatever they are, and whether they have ended.
func TestHoldsSamePoints(t *testing.T) {
	a, g, r := long(added(1, 5, yes)), long(got(1, 6, no)), long(removed(1, 7, no))
	for _, calls := range [][]api.Call{{a, g}, {g, a}, {a, r}, {r, g}, {g, g}, {r, r}, {g, a, r}, {onItsWay(a), g}, {onItsWay(g), onItsWay(r)}} {
		wantHolds(t, false, tens(5), calls...)
		wantHolds(t, false, nil, calls...)
	}
	wantHolds(t, false, tens(5), a, got(2, 5, value(50)), got(3, 6, no), with(got(4, 6, no), func(c *api.Call) { c.Begin, c.Point = 0, 20 }))
	wantHolds(t, true, tens(5), a, with(g, func(c *api.Call) { c.Point = 11 }), with(r, func(c *api.Call) { c.Point = 9 }))
	// Those without a point have none in common, nor has a call of another op one with a table's.
	wantHolds(t, true, tens(5), a, pointless(onItsWay(g)), pointless(onItsWay(r)))
	wantHolds(t, true, tens(5), a, at(1, api.OpPost, 5, 0, done), at(1, api.OpRead, 5, 0, value(5)))
}

// P23.9: each point lies behind Begin, and not behind End; one that has ended has a point.
func TestHoldsPointsOfTheirCalls(t *testing.T) {
	for _, call := range []api.Call{got(1, 5, no), removed(1, 5, no), added(1, 5, full)} {
		for point := -20; point < 40; point++ {
			for _, span := range [][2]int{{6, 14}, {9, 10}, {10, 10}, {10, 9}, {0, 10}, {-30, 30}, {-30, -2}, {14, 6}, {-2, 3}, {-1, 3}} {
				c := with(call, func(c *api.Call) { c.Begin, c.End, c.Point = span[0], span[1], point })
				wantHolds(t, point != -1 && point > span[0] && point <= span[1], nil, c)
				if c.Op != api.OpAdd { // one that has not ended puts its key in
					wantHolds(t, point == -1 || point > span[0], nil, onItsWay(c))
				}
			}
		}
	}
	edge := func(begin, end, point int) api.Call {
		return with(got(1, 5, no), func(c *api.Call) { c.Begin, c.End, c.Point = begin, end, point })
	}
	wantHolds(t, true, nil, edge(1<<63-2, 1<<63-1, 1<<63-1))
	wantHolds(t, false, nil, edge(1<<63-1, 1<<63-1, 1<<63-1))
	wantHolds(t, true, nil, edge(-1<<63, -1<<63+1, -1<<63+1))
	wantHolds(t, false, nil, edge(-1<<63, 7, -1<<63))
}

// P23.9: a call that has ended without a point.
func TestHoldsEndedWithoutAPoint(t *testing.T) {
	for _, c := range []api.Call{added(1, 5, full), added(1, 5, no), got(1, 5, no), removed(1, 5, no), added(1, 5, api.Answer{}), got(1, 5, api.Answer{})} {
		wantHolds(t, false, nil, pointless(c))
		wantHolds(t, false, tens(6), added(2, 6, yes), pointless(c))
		wantHolds(t, false, tens(6), pointless(c), added(2, 6, yes))
		wantHolds(t, false, nil, with(pointless(c), func(c *api.Call) { c.Begin, c.End = -5, -2 }))
	}
}

// P23.9: calls that have not ended: without a point they do nothing, with one what they do; what they are said to
// answer is not asked.
func TestHoldsOfCallsOnTheirWay(t *testing.T) {
	a, g, r := onItsWay(added(2, 5, yes)), onItsWay(got(2, 5, no)), onItsWay(removed(2, 5, no))
	wantHolds(t, true, nil, pointless(a), pointless(g), pointless(r))
	wantHolds(t, false, tens(5), pointless(a))
	wantHolds(t, true, tens(5), a)
	wantHolds(t, false, nil, a)
	wantHolds(t, true, tens(5), added(1, 5, yes), a)
	wantHolds(t, true, nil, g)
	wantHolds(t, true, tens(5), added(1, 5, yes), g)
	wantHolds(t, true, nil, r)
	wantHolds(t, true, nil, added(1, 5, yes), r)
	wantHolds(t, false, tens(5), added(1, 5, yes), r)
	wantHolds(t, true, tens(5), added(1, 5, yes), pointless(r))
	wantHolds(t, true, tens(5), added(1, 5, yes), r, added(3, 5, yes))
	wantHolds(t, false, tens(5), added(1, 5, yes), r, added(3, 5, no))
	for _, answer := range []api.Answer{yes, no, full, empty, done, value(5), {Kind: 99}} {
		says := func(c api.Call) api.Call { return with(c, func(c *api.Call) { c.Answer = answer }) }
		wantHolds(t, true, tens(5), says(a))
		wantHolds(t, true, nil, says(g))
		wantHolds(t, true, nil, added(1, 5, yes), says(r))
		wantHolds(t, true, nil, says(pointless(a)), says(pointless(r)))
	}
}

// P23.9: calls of other ops are not looked at, however they are; nor are threads, the trace and the shifts.
func TestHoldsLooksAtNothingElse(t *testing.T) {
	one := added(1, 5, yes)
	for op := api.Op(-2); op < 200; op++ {
		if slices.Contains(ops, op) {
			continue
		}
		odd := at(2, op, 5, 50, value(99))
		for _, c := range []api.Call{odd, pointless(odd), onItsWay(odd), with(odd, func(c *api.Call) { c.Begin = 90 })} {
			wantHolds(t, true, tens(5), one, c)
			wantHolds(t, true, tens(5), c, one)
		}
	}
	r := api.Run{
		Calls:  []api.Call{with(one, func(c *api.Call) { c.Thread = -9 }), with(got(2, 5, value(50)), func(c *api.Call) { c.Thread, c.Data = 99, 7 })},
		Trace:  []api.Access{{Move: -3, Thread: 99, Kind: 7, Addr: -1}},
		Shifts: []api.Shift{{Slot: 88, From: 3, To: 9}},
		Words:  wordsOf(t, tens(5)...),
	}
	if so, e := split.Holds(small(), r); !so || e != api.OK {
		t.Errorf("Holds = %v, %d", so, e)
	}
}

// P23.9: keys that are none are keys of the model's, which no words can hold.
func TestHoldsOfNoKeys(t *testing.T) {
	for _, key := range []int{-1, api.MaxSplitKey + 1, -1 << 63, 1<<63 - 1} {
		wantHolds(t, true, nil, got(1, key, no), removed(2, key, no), added(3, key, full))
		wantHolds(t, false, nil, added(1, key, yes))
		wantHolds(t, true, nil, added(1, key, yes), got(2, key, value(10*key)), removed(3, key, value(10*key)))
	}
}

// judge is P23.9 by its words, in the simplest way.
func judge(s api.Split, r api.Run) (bool, api.Errno) {
	pairs, e := split.Look(s, r.Words)
	if e != api.OK {
		return false, e
	}
	var calls []api.Call
	for _, c := range r.Calls {
		if !slices.Contains(ops, c.Op) {
			continue
		}
		if c.Point == -1 {
			if c.End != -1 {
				return false, api.OK
			}
			continue
		}
		if c.Point <= c.Begin || c.End != -1 && c.Point > c.End {
			return false, api.OK
		}
		for _, o := range calls {
			if o.Point == c.Point {
				return false, api.OK
			}
		}
		calls = append(calls, c)
	}
	contents := api.Contents{}
	for len(calls) > 0 {
		next := 0
		for i, c := range calls {
			if c.Point < calls[next].Point {
				next = i
			}
		}
		c := calls[next]
		calls = slices.Delete(calls, next, next+1)
		if c.End == -1 {
			c.Answer = api.Answer{}
		}
		left, so, f := model.Allows(contents, c)
		if !so || f != api.OK {
			return false, api.OK
		}
		contents = left
	}
	return slices.Equal(contents.Table, pairs), api.OK
}

// wantJudged asks that Holds is as its words say, and tells what was so.
func wantJudged(t *testing.T, s api.Split, r api.Run) string {
	t.Helper()
	so, e := judge(s, r)
	if got, f := split.Holds(s, r); got != so || f != e {
		t.Fatalf("Holds = %v, %d, not %v, %d: %+v", got, f, so, e, r.Calls)
	}
	switch {
	case e != api.OK:
		return "error"
	case so:
		return "true"
	}
	return "false"
}

// P23.9 of runs of which a single thing was made another: as its words say.
func TestHoldsOfChangedRuns(t *testing.T) {
	c := dice(77)
	met := map[string]int{}
	eachChance(t, 120, func(s api.Split, moves []api.Move) {
		r := playOf(t, s, moves...)
		if wantJudged(t, s, r) != "true" {
			t.Fatal("a run that doesn't hold")
		}
		for range 30 {
			changed := r
			changed.Calls, changed.Words = slices.Clone(r.Calls), slices.Clone(r.Words)
			if len(r.Calls) == 0 || c.below(5) == 0 {
				changeWord(&c, s, changed.Words)
			} else {
				changeCall(&c, changed.Calls)
			}
			met[wantJudged(t, s, changed)]++
		}
	})
	if met["true"] < 300 || met["false"] < 300 || met["error"] < 100 {
		t.Errorf("met %v", met)
	}
}

// changeCall makes a single thing of a call another.
func changeCall(c *dice, calls []api.Call) {
	call := &calls[c.below(len(calls))]
	other := calls[c.below(len(calls))]
	for range 9 { // mostly one of the table's
		if !slices.Contains(ops, call.Op) {
			call = &calls[c.below(len(calls))]
		}
	}
	switch c.below(11) {
	case 0:
		call.Point += c.below(5) - 2
	case 1:
		call.Point = -1
	case 2:
		call.Point = other.Point
	case 3:
		call.Answer.Kind = api.AnswerKind(c.below(7))
	case 4:
		call.Answer.Value = other.Data
	case 5:
		call.End = -1
	case 6:
		call.Arg = other.Arg
	case 7:
		call.Op = ops[c.below(3)]
	case 8:
		call.Data++
	case 9:
		call.Begin = other.Point
	case 10:
		call.End = other.Begin
	}
}
