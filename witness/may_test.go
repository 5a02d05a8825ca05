package witness_test

import (
	"slices"
	"testing"

	"reclaim/api"
)

// meeting is calls of all kinds that may be: with and without points, ended or not, of an object or not.
func meeting() []api.Call {
	return calls(
		at(14, call(0, api.OpPush, 5, 10, 20, done)),
		at(24, call(1, api.OpPop, 0, 12, 24, value(5))),
		call(2, api.OpRegister, 0, 16, 18, value(0)),
		at(32, call(0, api.OpInsert, 7, 22, 40, yes)),
		at(44, open(2, api.OpEnqueue, 3, 26)),
		call(1, api.OpDelete, 7, 30, 36, no),
		open(1, api.OpRead, 0, 38),
		at(46, call(15, api.OpPop, 0, 42, 48, empty)),
	)
}

// P12.1: calls that may be, at the edges of what may.
func TestMay(t *testing.T) {
	for what, l := range map[string][]api.Call{
		"nothing":                           nil,
		"an empty list":                     {},
		"calls of all kinds":                meeting(),
		"a Begin of 0":                      {call(0, api.OpPop, 0, 0, 1, empty)},
		"the last thread":                   {call(15, api.OpPop, 0, 0, 1, empty)},
		"a Point at once":                   {at(1, call(0, api.OpPop, 0, 0, 5, empty))},
		"a Point at the End":                {at(5, call(0, api.OpPop, 0, 0, 5, empty))},
		"Point and End at once":             {at(1, call(0, api.OpPop, 0, 0, 1, empty))},
		"a Point of one not ended":          {at(1, open(0, api.OpPop, 0, 0))},
		"the greatest Point":                {at(greatest, open(0, api.OpPop, 0, 0))},
		"the greatest End":                  {call(0, api.OpPop, 0, 0, greatest, empty)},
		"the greatest Begin":                {open(0, api.OpPop, 0, greatest)},
		"one that begins behind another":    {call(0, api.OpPop, 0, 0, 1, empty), call(0, api.OpPop, 0, 2, 3, empty)},
		"one that begins as the one ahead":  {call(0, api.OpPop, 0, 0, 9, empty), call(1, api.OpPop, 0, 1, 2, empty)},
		"several that have not ended":       {open(0, api.OpPop, 0, 0), open(1, api.OpPop, 0, 1), open(2, api.OpPop, 0, 2)},
		"a thread's last that hasn't ended": {call(3, api.OpPop, 0, 0, 1, empty), open(3, api.OpPop, 0, 2)},
		"one within another":                {at(8, call(0, api.OpPop, 0, 0, 9, empty)), at(4, call(1, api.OpPop, 0, 3, 5, empty))},
		"a Value below 0":                   {call(0, api.OpPop, 0, 0, 1, value(least))},
		"a Value of 0":                      {call(0, api.OpPop, 0, 0, 1, value(0))},
		"an Arg and Data that aren't used":  {data(greatest, call(0, api.OpPop, least, 0, 1, empty))},
	} {
		wantMay(t, what, l, true)
	}
}

// P12.1: a kind of answer is not held against the op.
func TestMayKinds(t *testing.T) {
	for _, op := range append(slices.Concat(ops...), foreign...) {
		for kind := api.AnswerDone; kind <= api.AnswerNo; kind++ {
			wantMay(t, "any answer of any op", calls(call(0, op, 1, 0, 1, api.Answer{Kind: kind})), true)
		}
		wantMay(t, "an op that has not ended", calls(open(0, op, 1, 0)), true)
	}
}

// P12.1: each thing that calls may not be, alone, of the calls that may be otherwise; and what the others answer.
func TestMayNot(t *testing.T) {
	for what, change := range map[string]func(l []api.Call){
		"a thread below 0":                           func(l []api.Call) { l[7].Thread = -1 },
		"the least thread":                           func(l []api.Call) { l[7].Thread = least },
		"a thread above the last":                    func(l []api.Call) { l[7].Thread = 16 },
		"the greatest thread":                        func(l []api.Call) { l[7].Thread = greatest },
		"a thread that wraps":                        func(l []api.Call) { l[7].Thread = 1 << 32 },
		"a Begin below 0":                            func(l []api.Call) { l[0].Begin = -1 },
		"the least Begin":                            func(l []api.Call) { l[0].Begin = least },
		"the Begin ahead":                            func(l []api.Call) { l[7].Begin = 38 },
		"a Begin below the one ahead":                func(l []api.Call) { l[7].Begin = 37 },
		"two that have changed places":               func(l []api.Call) { l[6], l[7] = l[7], l[6] },
		"an End at the Begin":                        func(l []api.Call) { l[2].End = 16 },
		"an End below the Begin":                     func(l []api.Call) { l[2].End = 15 },
		"an End of -2":                               func(l []api.Call) { l[2].End = -2 },
		"an End of 0":                                func(l []api.Call) { l[2].End = 0 },
		"the least End":                              func(l []api.Call) { l[2].End = least },
		"a Point at the Begin":                       func(l []api.Call) { l[7].Point = 42 },
		"a Point below the Begin":                    func(l []api.Call) { l[7].Point = 41 },
		"a Point of -2":                              func(l []api.Call) { l[7].Point = -2 },
		"a Point of 0":                               func(l []api.Call) { l[7].Point = 0 },
		"the least Point":                            func(l []api.Call) { l[7].Point = least },
		"a Point above the End":                      func(l []api.Call) { l[7].Point = 49 },
		"the greatest Point":                         func(l []api.Call) { l[7].Point = greatest },
		"a Point at the Begin of one not ended":      func(l []api.Call) { l[6].Point = 38 },
		"a Point below the Begin of one not ended":   func(l []api.Call) { l[6].Point = 37 },
		"a kind below all":                           func(l []api.Call) { l[0].Answer.Kind = -1 },
		"a kind above all":                           func(l []api.Call) { l[0].Answer.Kind = 7 },
		"a kind that wraps":                          func(l []api.Call) { l[0].Answer.Kind = 1<<32 + 1 },
		"the least kind":                             func(l []api.Call) { l[0].Answer.Kind = least },
		"the greatest kind":                          func(l []api.Call) { l[0].Answer.Kind = greatest },
		"no answer of one that has ended":            func(l []api.Call) { l[0].Answer = none },
		"no answer of one of no object":              func(l []api.Call) { l[2].Answer = none },
		"no answer but a Value":                      func(l []api.Call) { l[6].Answer.Value = 1 },
		"a Value beside Done":                        func(l []api.Call) { l[0].Answer.Value = 1 },
		"a Value beside Empty":                       func(l []api.Call) { l[7].Answer.Value = -1 },
		"a Value beside Full":                        func(l []api.Call) { l[0].Answer = api.Answer{Kind: api.AnswerFull, Value: 5} },
		"a Value beside Yes":                         func(l []api.Call) { l[3].Answer.Value = least },
		"a Value beside No":                          func(l []api.Call) { l[5].Answer.Value = greatest },
		"an answer of one not ended, Done":           func(l []api.Call) { l[6].Answer = done },
		"an answer of one not ended, a Value":        func(l []api.Call) { l[6].Answer = value(0) },
		"an answer of one not ended, Empty":          func(l []api.Call) { l[6].Answer = empty },
		"an answer of one not ended, Full":           func(l []api.Call) { l[6].Answer = full },
		"an answer of one not ended, Yes":            func(l []api.Call) { l[6].Answer = yes },
		"an answer of one not ended, No":             func(l []api.Call) { l[6].Answer = no },
		"a Begin that is an End":                     func(l []api.Call) { l[7].Begin = 40 },
		"a Begin that is a Point":                    func(l []api.Call) { l[2].Begin = 14 },
		"an End that is a Begin":                     func(l []api.Call) { l[3].End = 42 },
		"an End that is an End":                      func(l []api.Call) { l[3].End = 36 },
		"an End that is a Point":                     func(l []api.Call) { l[3].End = 46 },
		"a Point that is a Begin":                    func(l []api.Call) { l[4].Point = 38 },
		"a Point that is an End":                     func(l []api.Call) { l[4].Point = 48 },
		"a Point that is a Point":                    func(l []api.Call) { l[4].Point = 46 },
		"a Point that is an End and a Point":         func(l []api.Call) { l[0].Point, l[2].Point, l[2].End = 18, 18, 18 },
		"a Point that is the last of one's":          func(l []api.Call) { l[6].Point = 48 },
		"a thread that begins ahead of its End":      func(l []api.Call) { l[7].Thread, l[3].End = 0, 43 },
		"a thread that begins in the midst":          func(l []api.Call) { l[2].Thread = 0 },
		"a thread that goes on behind one not ended": func(l []api.Call) { l[7].Thread = 1 },
		"a thread that goes on behind a Point":       func(l []api.Call) { l[7].Thread, l[4].Point = 2, 41 },
	} {
		l := meeting()
		change(l)
		wantRefused(t, what, l)
	}
}

// P12.1: what is odd of one call alone is odd whatever its number is.
func TestMayNotAnywhere(t *testing.T) {
	for i := range meeting() {
		for what, change := range map[string]func(c *api.Call){
			"a thread that there isn't": func(c *api.Call) { c.Thread = -1 },
			"a Begin below 0":           func(c *api.Call) { c.Begin = -1 },
			"an End at the Begin":       func(c *api.Call) { c.End = c.Begin },
			"a Point at the Begin":      func(c *api.Call) { c.Point = c.Begin },
			"a kind that is none":       func(c *api.Call) { c.Answer.Kind = 7 },
			"a Begin of another":        func(c *api.Call) { c.Begin = 10; c.Point = -1; c.End = 51 },
		} {
			l := meeting()
			change(&l[i])
			if what != "a Begin of another" || i > 0 {
				wantRefused(t, what, l)
			}
		}
	}
}

// P12.1: calls of one thread that overlap, one behind the other and one within the other; of two threads they may.
func TestOverlap(t *testing.T) {
	for _, end := range []int{5, 7, 9, 12} {
		for _, begin := range []int{1, 4, 6, 8, 10, 13} {
			for thread := range 2 {
				l := calls(call(0, api.OpPop, 0, 0, end, empty), call(thread, api.OpPop, 0, begin, begin+20, empty))
				if thread == 1 || end < begin {
					wantMay(t, "apart", l, true)
				} else {
					wantRefused(t, "two at once", l)
				}
			}
		}
	}
	three := calls(call(0, api.OpPop, 0, 0, 30, empty), call(1, api.OpPop, 0, 3, 5, empty), call(0, api.OpPop, 0, 10, 40, empty))
	wantRefused(t, "two at once with another between them", three)
}

// P12.1: ErrCalls comes ahead of ErrLong, of nine calls that count.
func TestMayNotLong(t *testing.T) {
	var l []api.Call
	for i := range 20 {
		l = append(l, call(i%16, api.OpPush, i, 2*i, 2*i+1, done))
	}
	wantLong(t, l)
	l[19].Thread = 16
	wantRefused(t, "a thread that there isn't of many", l)
}
