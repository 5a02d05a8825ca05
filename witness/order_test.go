package witness_test

import (
	"testing"

	"reclaim/api"
)

// three is calls that all meet: a push, a pop that has not ended, a push, and one that does not count.
func three() []api.Call {
	return calls(
		call(0, api.OpPush, 1, 0, 10, done),
		open(1, api.OpPop, 0, 1),
		call(2, api.OpPush, 2, 2, 11, done),
		call(3, api.OpTake, 0, 3, 12, value(4)),
	)
}

// P12.5, P12.6: with and without the call that has not ended, which does whatever it does where it stands.
func TestOrders(t *testing.T) {
	for _, x := range []struct {
		order []int
		left  []int
	}{
		{list(0, 2), list(2, 1)},
		{list(2, 0), list(1, 2)},
		{list(1, 0, 2), list(2, 1)},
		{list(0, 1, 2), list(2)},
		{list(0, 2, 1), list(1)},
		{list(2, 0, 1), list(2)},
		{list(2, 1, 0), list(1)},
		{list(1, 2, 0), list(1, 2)},
	} {
		wantLeft(t, three(), x.order, api.Contents{Stack: x.left})
	}
}

// P12.5: lists that are no orders.
func TestNoOrders(t *testing.T) {
	for what, order := range map[string][]int{
		"nothing":                                nil,
		"a number twice":                         {0, 2, 0},
		"a number twice at the end":              {0, 2, 2},
		"the one that has not ended twice":       {0, 1, 2, 1},
		"a number below 0":                       {0, 2, -1},
		"a number that is none":                  {0, 2, 4},
		"a number that is none first":            {4, 0, 2},
		"the greatest number":                    {0, 2, greatest},
		"the least number":                       {least, 0, 2},
		"a number that wraps":                    {0, 2, 1<<32 + 1},
		"one that doesn't count":                 {0, 2, 3},
		"one that doesn't count first":           {3, 0, 2},
		"all":                                    {0, 1, 2, 3},
		"without the first":                      {2},
		"without the last":                       {0},
		"the one that has not ended alone":       {1},
		"without the first, with the open one":   {1, 2},
		"without the last, with the open one":    {0, 1},
		"one that doesn't count for one ended":   {0, 3},
		"one that hasn't ended for one that has": {1, 0},
	} {
		l := three()
		wantCheck(t, l, order, api.ErrOrder)
		l[1].Answer, l[1].End = value(9), 13 // so that no order explains
		wantCheck(t, l, order, api.ErrOrder)
		if t.Failed() {
			t.Fatal(what)
		}
	}
	wantCheck(t, nil, list(0), api.ErrOrder)
	wantLeft(t, nil, nil, api.Contents{})
	wantLeft(t, []api.Call{}, []int{}, api.Contents{})
	idle := calls(call(0, api.OpRegister, 0, 0, 1, value(0)), open(1, api.OpScan, 0, 2))
	wantLeft(t, idle, nil, api.Contents{})
	wantCheck(t, idle, list(0), api.ErrOrder)
	wantCheck(t, idle, list(1), api.ErrOrder)
}

// P12.5: each op of no object does not count, of each number.
func TestNoOrderOfForeign(t *testing.T) {
	for _, op := range foreign {
		l := calls(call(0, op, 0, 0, 1, done), call(0, api.OpPop, 0, 2, 3, empty), open(0, op, 0, 4))
		wantLeft(t, l, list(1), api.Contents{})
		for _, order := range [][]int{{0, 1}, {1, 2}, {0, 1, 2}, {0}, {}} {
			wantCheck(t, l, order, api.ErrOrder)
		}
	}
	for _, of := range ops {
		for _, op := range of {
			l := calls(open(0, op, 3, 0))
			wantCheck(t, l, list(0), api.OK)
			wantCheck(t, l, nil, api.OK)
		}
	}
}

// P12.5: the errors in their order: what is no order is not asked for its time, what is not in time not for its
// answers.
func TestCheckInOrder(t *testing.T) {
	l := calls(
		call(0, api.OpPush, 1, 0, 3, done),
		call(0, api.OpPop, 0, 4, 8, value(2)),
		call(1, api.OpPush, 2, 5, 9, done),
		call(2, api.OpFlush, 0, 10, 11, done),
		call(0, api.OpPop, 0, 12, 14, value(7)),
	)
	for _, x := range []struct {
		order []int
		e     api.Errno
	}{
		{list(4, 0, 0), api.ErrOrder},
		{list(4, 3, 2, 1, 0), api.ErrOrder},
		{list(1, 0), api.ErrOrder},
		{list(4, 2, 1, 0), api.ErrEarly},
		{list(0, 1, 4, 2), api.ErrEarly},
		{list(0, 2, 4, 1), api.ErrEarly},
		{list(1, 2, 0, 4), api.ErrEarly},
		{list(2, 0, 1, 4), api.ErrEarly},
		{list(0, 1, 2, 4), api.ErrAnswer},
		{list(0, 2, 1, 4), api.ErrAnswer},
	} {
		wantCheck(t, l, x.order, x.e)
	}
	l[4].Answer = value(1)
	wantLeft(t, l, list(0, 2, 1, 4), api.Contents{})
	wantCheck(t, l, list(0, 1, 2, 4), api.ErrAnswer)
	wantCheck(t, l, list(2, 0, 1, 4), api.ErrEarly)
	l[4] = open(0, api.OpPop, 0, 12)
	wantLeft(t, l, list(0, 2, 1), api.Contents{Stack: list(1)})
	wantLeft(t, l, list(0, 2, 1, 4), api.Contents{})
	wantCheck(t, l, list(4, 0, 2, 1), api.ErrEarly)
	wantCheck(t, l, list(0, 2, 4, 1), api.ErrEarly)
}

// P12.5: not in time just of the two that stand one far from the other, and by one move.
func TestEarly(t *testing.T) {
	push := func(thread, begin, end int) api.Call { return call(thread, api.OpPush, 1, begin, end, done) }
	l := calls(push(0, 0, 20), push(1, 1, 3), push(2, 2, 21), push(3, 4, 22))
	wantCheck(t, l, list(3, 0, 2, 1), api.ErrEarly)
	wantCheck(t, l, list(0, 3, 2, 1), api.ErrEarly)
	wantCheck(t, l, list(2, 0, 1, 3), api.OK)
	l[1].End = 5
	wantCheck(t, l, list(3, 0, 2, 1), api.OK)
	wantCheck(t, l, list(0, 3, 2, 1), api.OK)
	l = calls(open(0, api.OpPush, 1, 0), open(1, api.OpPush, 2, 5), push(2, 7, 9))
	wantCheck(t, l, list(1, 2, 0), api.OK)
	wantCheck(t, l, list(2, 1, 0), api.OK)
}

// P12.5: an answer that may not be, of the first call, of one in the midst and of the last one, and of Full.
func TestWrongAnswers(t *testing.T) {
	l := calls(
		call(0, api.OpInsert, 5, 0, 1, yes),
		call(0, api.OpAdd, 5, 2, 3, full),
		call(0, api.OpGet, 5, 4, 5, no),
		data(50, call(0, api.OpAdd, 5, 6, 7, yes)),
		call(0, api.OpGet, 5, 8, 9, value(50)),
		call(0, api.OpContains, 5, 10, 11, yes),
	)
	wantLeft(t, l, upTo(6), api.Contents{Set: list(5), Table: []api.Pair{{Key: 5, Value: 50}}})
	for i, wrong := range [][]api.Answer{
		{no, done, empty, value(0)}, {no, done, empty}, {yes, full, value(50)}, {no, value(50)}, {no, full, value(51)}, {no, full, value(5)},
	} {
		for _, a := range wrong {
			changed := append(calls(), l...)
			changed[i].Answer = a
			wantCheck(t, changed, upTo(6), api.ErrAnswer)
		}
	}
}

// P12.5, P12.6: any number of calls, in an order of their own.
func TestMany(t *testing.T) {
	const pairs = 3000
	var l []api.Call
	var order, wrong []int
	for i := range pairs { // a pop answers what is pushed while it is on its way
		l = append(l, call(0, api.OpPop, 0, 10*i, 10*i+5, value(i)), call(1, api.OpPush, i, 10*i+1, 10*i+4, done))
		order = append(order, 2*i+1, 2*i)
		wrong = append(wrong, 2*i, 2*i+1)
	}
	l = append(l, call(2, api.OpEnqueue, 7, 10*pairs, 10*pairs+1, done))
	last := 2 * pairs
	wantLeft(t, l, append(order, last), api.Contents{Queue: list(7)})
	wantCheck(t, l, append(wrong, last), api.ErrAnswer)
	wantCheck(t, l, order, api.ErrOrder)
	wantCheck(t, l, append(order, last, last), api.ErrOrder)
	wantCheck(t, l, append(list(last), order...), api.ErrEarly)
	wantWidth(t, l, 2)
	wantLong(t, l)
}
