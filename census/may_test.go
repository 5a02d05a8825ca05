package census_test

import (
	"slices"
	"testing"

	"reclaim/api"
	"reclaim/census"
	"reclaim/word"
)

// meeting is a run with all that a run may have, of three threads over four slots, one of them used. Free is 0, the
// actives 7 and 8, the hazards 9 to 14, spare 15 to 18, value 19 to 22, data 23 to 26, link 27 to 30.
func meeting() *tale {
	x := taleOf(configOf(3, 2, 3, 1, 1, 4, 1), 1,
		at(40, call(0, api.OpPush, 10, 40, done)),
		call(1, api.OpTake, 12, 26, value(1)),
		at(34, open(2, api.OpEnqueue, 14)),
		at(44, call(1, api.OpPush, 36, 46, full)),
		open(0, api.OpRegister, 50),
	)
	x.load(16, 0, 0).load(18, 1, 0).load(20, 1, 16)
	x.swap(22, 1, 0, 2, 1<<32+3).shift(22, 1, 1, api.StateOwned)
	x.swap(24, 0, 0, 2, 1<<32+3)
	x.load(26, 1, 7)
	x.store(28, 2, 12, link(0))
	x.store(30, 0, 24, 77)
	x.shift(32, 0, 0, api.StateDetached, api.StateRetired)
	x.swap(40, 0, 8, 0, 0).shift(40, 0, 2, api.StateOwned)
	x.shift(40, 0, 3, api.StateOwned, api.StateCached)
	x.load(44, 1, 24)
	x.shift(48, 2, 2, api.StateOwned)
	x.load(52, 0, 24)
	return x
}

// P13.1: runs that go together, at the edges of what does.
func TestMay(t *testing.T) {
	c := meeting().c
	for what, x := range map[string]*tale{
		"a run of all kinds":                  meeting(),
		"nothing":                             taleOf(c, 0),
		"nothing, one slot used":              taleOf(c, 1),
		"nothing, all slots used":             taleOf(c, 4),
		"a Begin of 0":                        taleOf(c, 0, call(0, api.OpFlush, 0, 1, done)),
		"a call of the last thread":           taleOf(c, 0, call(2, api.OpFlush, 0, 1, done)),
		"a Point at once":                     taleOf(c, 0, at(1, call(0, api.OpPush, 0, 5, done))),
		"a Point at the End":                  taleOf(c, 0, at(5, call(0, api.OpPush, 0, 5, done))),
		"a Point of one not ended":            taleOf(c, 0, at(greatest, open(0, api.OpPush, 0))),
		"the greatest End":                    taleOf(c, 0, at(greatest, call(0, api.OpPush, 0, greatest, done))),
		"the greatest Begin":                  taleOf(c, 0, open(0, api.OpPush, greatest)),
		"Points of one move":                  taleOf(c, 0, at(5, call(0, api.OpPush, 0, 7, done)), at(5, call(1, api.OpPush, 1, 6, done))),
		"a Point that is another's Begin":     taleOf(c, 0, at(1, call(0, api.OpPush, 0, 7, done)), at(5, call(1, api.OpPush, 1, 6, done))),
		"a Point that is another's End":       taleOf(c, 0, at(6, call(0, api.OpPush, 0, 7, done)), at(5, call(1, api.OpPush, 1, 6, done))),
		"a Point that is another's access":    taleOf(c, 0, at(3, open(0, api.OpPush, 0)), open(1, api.OpPush, 1)).load(3, 1, 0),
		"a Value of 0":                        taleOf(c, 0, call(0, api.OpTake, 0, 1, value(0))),
		"a Value below 0":                     taleOf(c, 0, call(0, api.OpTake, 0, 1, value(least))),
		"an op that there isn't":              taleOf(c, 0, call(0, -7, 0, 1, done)),
		"one call behind the other":           taleOf(c, 0, call(0, api.OpFlush, 0, 1, done), call(0, api.OpFlush, 2, 3, done), open(0, api.OpFlush, 4)),
		"an access behind the Begin":          taleOf(c, 0, open(0, api.OpPush, 3)).load(4, 0, 0),
		"an access at the End":                taleOf(c, 0, call(0, api.OpPush, 3, 5, done)).load(5, 0, 0),
		"the greatest move of an access":      taleOf(c, 0, open(0, api.OpPush, 3)).load(greatest, 0, 0),
		"the last address":                    taleOf(c, 0, open(0, api.OpPush, 3)).store(4, 0, 30, 1<<64-1),
		"words that are none of their region": taleOf(c, 0, open(0, api.OpPush, 3)).store(4, 0, 0, 1<<64-1).store(5, 0, 9, 1<<63),
		"a swap to what was there":            taleOf(c, 0, open(0, api.OpPush, 3)).swap(4, 0, 30, 0, 0),
		"a swap of numbers that fails":        taleOf(c, 0, open(0, api.OpPush, 3)).swap(4, 0, 30, 7, 8),
		"a shift behind the Begin":            taleOf(c, 0, open(0, api.OpPush, 3)).shift(4, 0, 0, api.StateOwned),
		"a shift at the End":                  taleOf(c, 0, call(0, api.OpPush, 3, 5, done)).shift(5, 0, 3, api.StateOwned),
		"a shift to the state that it is in":  taleOf(c, 0, open(0, api.OpPush, 3)).shift(4, 0, 0, api.StateFree, api.StateFree),
		"shifts to all states":                taleOf(c, 2, open(0, api.OpPush, 3)).shift(4, 0, 1, 3, 4, 5, 0, 1, 2),
		"the greatest move of a shift":        taleOf(c, 0, open(0, api.OpPush, 3)).shift(greatest, 0, 0, api.StateOwned),
		"shifts of two threads in two moves":  taleOf(c, 0, open(0, api.OpPush, 3), open(1, api.OpPush, 4)).shift(5, 0, 0, api.StateOwned).shift(6, 1, 0, api.StateLinked),
	} {
		x.wantMay(t, what, true)
	}
}

// calls, trace, shifts and words change a part of the run that goes together.

func calls(change func(l []api.Call)) func(r *api.Run) { return func(r *api.Run) { change(r.Calls) } }

func trace(change func(l []api.Access)) func(r *api.Run) {
	return func(r *api.Run) { change(r.Trace) }
}

func shifts(change func(l []api.Shift)) func(r *api.Run) {
	return func(r *api.Run) { change(r.Shifts) }
}

func wantNot(t *testing.T, changes map[string]func(r *api.Run)) {
	t.Helper()
	for what, change := range changes {
		x := meeting()
		change(&x.r)
		x.wantRefused(t, what)
	}
}

// P13.1, 1: each thing that calls may not be, alone.
func TestMayNotCalls(t *testing.T) {
	wantNot(t, map[string]func(r *api.Run){
		"a thread below 0":                      calls(func(l []api.Call) { l[3].Thread = -1 }),
		"a thread above the last":               func(r *api.Run) { r.Calls = append(r.Calls, open(3, api.OpPush, 60)) },
		"a thread above all":                    func(r *api.Run) { r.Calls = append(r.Calls, open(16, api.OpPush, 60)) },
		"the greatest thread":                   func(r *api.Run) { r.Calls = append(r.Calls, open(greatest, api.OpPush, 60)) },
		"the least thread":                      func(r *api.Run) { r.Calls = append(r.Calls, open(least, api.OpPush, 60)) },
		"a Begin below 0":                       calls(func(l []api.Call) { l[0].Begin = -1 }),
		"the least Begin":                       calls(func(l []api.Call) { l[0].Begin = least }),
		"the Begin of the call ahead":           calls(func(l []api.Call) { l[2].Begin = 12 }),
		"a Begin below that of the call ahead":  calls(func(l []api.Call) { l[2].Begin = 11 }),
		"two that have changed places":          calls(func(l []api.Call) { l[1], l[2] = l[2], l[1] }),
		"an End at the Begin":                   func(r *api.Run) { r.Calls = append(r.Calls, call(1, api.OpPush, 60, 60, done)) },
		"an End below the Begin":                func(r *api.Run) { r.Calls = append(r.Calls, call(1, api.OpPush, 60, 59, done)) },
		"an End of 0":                           func(r *api.Run) { r.Calls = append(r.Calls, call(1, api.OpPush, 60, 0, done)) },
		"an End of -2":                          func(r *api.Run) { r.Calls = append(r.Calls, call(1, api.OpPush, 60, -2, done)) },
		"the least End":                         func(r *api.Run) { r.Calls = append(r.Calls, call(1, api.OpPush, 60, least, done)) },
		"a Point at the Begin":                  calls(func(l []api.Call) { l[3].Point = 36 }),
		"a Point below the Begin":               calls(func(l []api.Call) { l[3].Point = 35 }),
		"a Point of 0":                          calls(func(l []api.Call) { l[3].Point = 0 }),
		"a Point of -2":                         calls(func(l []api.Call) { l[3].Point = -2 }),
		"the least Point":                       calls(func(l []api.Call) { l[3].Point = least }),
		"a Point above the End":                 calls(func(l []api.Call) { l[3].Point = 47 }),
		"the greatest Point":                    calls(func(l []api.Call) { l[3].Point = greatest }),
		"a Point at the Begin of one not ended": calls(func(l []api.Call) { l[2].Point = 14 }),
		"a Point ahead of one not ended":        calls(func(l []api.Call) { l[2].Point = 13 }),
		"a Point of -2 of one not ended":        calls(func(l []api.Call) { l[2].Point = -2 }),
		"a kind below all":                      calls(func(l []api.Call) { l[0].Answer.Kind = -1 }),
		"a kind above all":                      calls(func(l []api.Call) { l[0].Answer.Kind = 7 }),
		"a kind that wraps":                     calls(func(l []api.Call) { l[0].Answer.Kind = 1<<32 + 1 }),
		"no answer of one that has ended":       calls(func(l []api.Call) { l[0].Answer = none }),
		"an answer of one that has not":         calls(func(l []api.Call) { l[4].Answer = done }),
		"a kind that is none of one not ended":  calls(func(l []api.Call) { l[4].Answer.Kind = -1 }),
		"a Value of one that has not ended":     calls(func(l []api.Call) { l[4].Answer.Value = 1 }),
		"a Value beside Done":                   calls(func(l []api.Call) { l[0].Answer.Value = 1 }),
		"a Value beside Full":                   calls(func(l []api.Call) { l[3].Answer.Value = least }),
		"a Value beside Empty":                  calls(func(l []api.Call) { l[3].Answer = api.Answer{Kind: api.AnswerEmpty, Value: -1} }),
		"a Value beside Yes":                    calls(func(l []api.Call) { l[3].Answer = api.Answer{Kind: api.AnswerYes, Value: 5} }),
		"a Value beside No":                     calls(func(l []api.Call) { l[3].Answer = api.Answer{Kind: api.AnswerNo, Value: 5} }),
		"a thread that goes on ahead of an End": func(r *api.Run) { r.Calls = append(r.Calls, open(0, api.OpPush, 60)) },
		"a thread that goes on within a call":   calls(func(l []api.Call) { l[1].End = 38 }),
		"a thread that goes on at its End":      calls(func(l []api.Call) { l[1].End = 36 }),
		"an End that is an End":                 calls(func(l []api.Call) { l[3].End, l[3].Point = 40, -1 }),
		"an End that is a Begin":                calls(func(l []api.Call) { l[3].End = 50 }),
	})
}

// P13.1, 1: calls alone, so that no other part can be what doesn't go with them.
func TestMayNotCallsAlone(t *testing.T) {
	c := meeting().c
	for what, x := range map[string]*tale{
		"an End that is an End":                 taleOf(c, 0, call(0, api.OpFlush, 0, 5, done), call(1, api.OpFlush, 1, 5, done)),
		"an End that is a Begin":                taleOf(c, 0, call(0, api.OpFlush, 0, 5, done), call(1, api.OpFlush, 5, 6, done)),
		"a thread's End that is its Begin":      taleOf(c, 0, call(0, api.OpFlush, 0, 5, done), call(0, api.OpFlush, 5, 6, done)),
		"a thread's calls that overlap":         taleOf(c, 0, call(0, api.OpFlush, 0, 5, done), call(0, api.OpFlush, 4, 6, done)),
		"a thread's call within another":        taleOf(c, 0, call(0, api.OpFlush, 0, 5, done), call(0, api.OpFlush, 1, 2, done)),
		"a thread's call behind one not ended":  taleOf(c, 0, open(0, api.OpFlush, 0), call(0, api.OpFlush, 1, 2, done)),
		"overlapping with one between":          taleOf(c, 0, call(0, api.OpFlush, 0, 9, done), call(1, api.OpFlush, 1, 2, done), call(0, api.OpFlush, 4, 6, done)),
		"calls of one Begin":                    taleOf(c, 0, open(0, api.OpFlush, 1), open(1, api.OpFlush, 1)),
		"calls of falling Begin":                taleOf(c, 0, open(0, api.OpFlush, 2), open(1, api.OpFlush, 1)),
		"the first of two falling from far off": taleOf(c, 0, open(0, api.OpFlush, greatest), open(1, api.OpFlush, 0)),
	} {
		x.wantRefused(t, what)
	}
}

// P13.1, 2: each thing that the trace may not be, alone.
func TestMayNotTrace(t *testing.T) {
	wantNot(t, map[string]func(r *api.Run){
		"two that have changed places":                  trace(func(l []api.Access) { l[0], l[1] = l[1], l[0] }),
		"a move that falls":                             trace(func(l []api.Access) { l[1].Move = 15 }),
		"a move twice":                                  trace(func(l []api.Access) { l[1].Move = 20 }),
		"a move that is a Begin":                        trace(func(l []api.Access) { l[9].Move = 50 }),
		"a move that is another's":                      trace(func(l []api.Access) { l[8].Move = 50 }),
		"a thread ahead of its Begin":                   trace(func(l []api.Access) { l[9].Move = 49 }),
		"a thread behind its End":                       trace(func(l []api.Access) { l[8].Move = 47 }),
		"a thread that is idle":                         trace(func(l []api.Access) { l[6].Thread = 1 }),
		"a thread below 0":                              trace(func(l []api.Access) { l[6].Thread = -1 }),
		"a thread above the last":                       trace(func(l []api.Access) { l[6].Thread = 3 }),
		"a thread above all":                            trace(func(l []api.Access) { l[6].Thread = 16 }),
		"the least thread":                              trace(func(l []api.Access) { l[6].Thread = least }),
		"a move below 0":                                trace(func(l []api.Access) { l[0].Move = -1 }),
		"a kind of 0":                                   trace(func(l []api.Access) { l[0].Kind = 0 }),
		"a kind above all":                              trace(func(l []api.Access) { l[3].Kind = 4 }),
		"a kind that wraps":                             trace(func(l []api.Access) { l[3].Kind = 1<<32 + 3 }),
		"a load with an Old":                            trace(func(l []api.Access) { l[0].Old = 2 }),
		"a load with a New":                             trace(func(l []api.Access) { l[0].New = 2 }),
		"a store with an Old":                           trace(func(l []api.Access) { l[6].Old = 1 }),
		"a store with a Saw":                            trace(func(l []api.Access) { l[6].Saw = 1 }),
		"an address below 0":                            trace(func(l []api.Access) { l[5].Addr = -1 }),
		"an address above the last":                     trace(func(l []api.Access) { l[5].Addr = 31 }),
		"the greatest address":                          trace(func(l []api.Access) { l[5].Addr = greatest }),
		"the least address":                             trace(func(l []api.Access) { l[5].Addr = least }),
		"a load that saw another word":                  trace(func(l []api.Access) { l[0].Saw = 3 }),
		"a load behind a write":                         trace(func(l []api.Access) { l[9].Saw = 0 }),
		"a swap that saw what was not":                  trace(func(l []api.Access) { l[3].Saw = 1 }),
		"a swap that failed, and saw what it was given": trace(func(l []api.Access) { l[4].Saw = 2 }),
		"a swap that succeeded, and of another word":    trace(func(l []api.Access) { l[3].Old = 3 }),
		"a word that is not what is left":               func(r *api.Run) { r.Words[30]++ },
		"a word that was stored":                        func(r *api.Run) { r.Words[24]-- },
		"words that a swap left":                        trace(func(l []api.Access) { l[3].New++ }),
		"words that a swap that failed left":            func(r *api.Run) { r.Trace[4].New = 9; r.Words[0] = 9 },
		"a word more":                                   func(r *api.Run) { r.Words = append(r.Words, 0) },
		"a word fewer":                                  func(r *api.Run) { r.Words = r.Words[:30] },
		"no words":                                      func(r *api.Run) { r.Words = nil },
		"an access fewer":                               func(r *api.Run) { r.Trace = slices.Delete(r.Trace, 7, 8) },
		"no accesses":                                   func(r *api.Run) { r.Trace = nil },
		"no calls":                                      func(r *api.Run) { r.Calls = nil },
	})
}

// P13.1, 3: each thing that shifts may not be, alone.
func TestMayNotShifts(t *testing.T) {
	wantNot(t, map[string]func(r *api.Run){
		"a move that falls":               shifts(func(l []api.Shift) { l[0].Move = 34 }),
		"a move that is a Begin":          shifts(func(l []api.Shift) { l[6].Move = 50 }),
		"a move that is its own Begin":    shifts(func(l []api.Shift) { l[6].Move, l[6].Thread = 50, 0 }),
		"a thread ahead of its Begin":     shifts(func(l []api.Shift) { l[6].Move, l[6].Thread = 49, 0 }),
		"a thread behind its End":         shifts(func(l []api.Shift) { l[6].Thread = 1 }),
		"a thread below 0":                shifts(func(l []api.Shift) { l[6].Thread = -1 }),
		"a thread above the last":         shifts(func(l []api.Shift) { l[6].Thread = 3 }),
		"a thread above all":              shifts(func(l []api.Shift) { l[6].Thread = 16 }),
		"a move below 0":                  shifts(func(l []api.Shift) { l[0].Move = -1 }),
		"a slot below 0":                  shifts(func(l []api.Shift) { l[6].Slot = -1 }),
		"a slot above the last":           shifts(func(l []api.Shift) { l[6].Slot, l[6].From = 4, 0 }),
		"the greatest slot":               shifts(func(l []api.Shift) { l[6].Slot = greatest }),
		"a state below all":               shifts(func(l []api.Shift) { l[6].To = -1 }),
		"a state above all":               shifts(func(l []api.Shift) { l[6].To = 6 }),
		"a state that wraps":              shifts(func(l []api.Shift) { l[6].To = 1<<32 + 2 }),
		"from a state that it is not in":  shifts(func(l []api.Shift) { l[6].From = api.StateFree }),
		"from a state that there isn't":   shifts(func(l []api.Shift) { l[6].From = 6 }),
		"from a state below all":          shifts(func(l []api.Shift) { l[6].From = -1 }),
		"from the state at the beginning": shifts(func(l []api.Shift) { l[2].From = api.StateLinked }),
		"two that have changed places":    shifts(func(l []api.Shift) { l[1], l[2] = l[2], l[1] }),
		"a shift fewer":                   func(r *api.Run) { r.Shifts = slices.Delete(r.Shifts, 1, 2) },
		"another slot":                    shifts(func(l []api.Shift) { l[1].Slot = 1 }),
	})
}

// P13.1, 4: a move of two threads, each of which is in a call.
func TestMayNotOfTwo(t *testing.T) {
	two := func() *tale {
		return taleOf(meeting().c, 0, call(0, api.OpPush, 0, 10, done), open(1, api.OpPush, 1))
	}
	for what, x := range map[string]*tale{
		"an End and an access":                 two().load(10, 1, 0),
		"an End and a shift":                   two().shift(10, 1, 0, api.StateOwned),
		"an access and a shift":                two().load(5, 0, 0).shift(5, 1, 0, api.StateOwned),
		"a shift and an access":                two().shift(5, 0, 0, api.StateOwned).load(5, 1, 0),
		"two shifts":                           two().shift(5, 0, 0, api.StateOwned).shift(5, 1, 1, api.StateOwned),
		"two shifts of one slot":               two().shift(5, 0, 0, api.StateOwned).shift(5, 1, 0, api.StateLinked),
		"the third of three shifts":            two().shift(5, 0, 0, api.StateOwned, api.StateLinked).shift(5, 1, 1, api.StateOwned),
		"an access and the second shift":       two().load(5, 0, 0).shift(5, 0, 0, api.StateOwned).shift(5, 1, 1, api.StateOwned),
		"two accesses":                         two().load(5, 0, 0).load(5, 1, 0),
		"an End with its access and a shift":   two().load(10, 0, 0).shift(10, 1, 1, api.StateOwned),
		"an End with its shift, and an access": two().shift(10, 0, 1, api.StateOwned).load(10, 1, 0),
	} {
		x.wantRefused(t, what)
	}
	for what, x := range map[string]*tale{
		"an End with all that is its thread's": two().load(10, 0, 0).shift(10, 0, 1, api.StateOwned, api.StateLinked),
		"two moves":                            two().load(5, 0, 0).shift(6, 1, 1, api.StateOwned),
	} {
		x.wantMay(t, what, true)
	}
}

// P13.1: where the memory begins hangs on used.
func TestMayUsed(t *testing.T) {
	x := meeting()
	for used := range 5 {
		words, _ := word.First(x.c, used)
		for other := range 5 {
			r := api.Run{Words: words}
			if got := census.May(x.c, other, r); got != (used == other) {
				t.Errorf("used %d and the words of %d: May = %v", other, used, got)
			}
		}
		if used != 1 {
			wantRefused(t, "another used", x.c, used, x.r, api.ErrRun)
		}
	}
}
