package replay_test

import (
	"slices"
	"testing"

	"reclaim/api"
	"reclaim/pool"
	"reclaim/replay"
	"reclaim/word"
)

// P16.1: a script with all kinds of moves that do nothing, worked by hand.
func TestMovesThatDoNothing(t *testing.T) {
	moves := []api.Move{
		register(-1), register(1), register(greatest), // 0 to 2: no such threads
		step(0), move(0, 999, 0), push(0, 5), // 3 to 5: idle; no such op; no record
		register(0),       // 6
		push(0, 5),        // 7: busy
		step(0),           // 8: load active
		step(1), step(-1), // 9, 10
		step(0),                                                                                      // 11: swap active: value 0
		step(0), move(0, api.OpRead, 3), move(0, api.OpGive, 1), move(0, api.OpLook, 0), register(0), // 12 to 16: idle; refused; unknown; refused
		pop(0),              // 17
		step(least), pop(2), // 18, 19
		step(0), // 20: load top: empty
		pop(1), step(0),
	}
	words, _ := word.First(example(), 1)
	words[7] = 1
	wantPlay(t, "all kinds", example(), moves, api.Run{
		Calls: []api.Call{
			{Op: api.OpRegister, Begin: 6, End: 11, Point: -1, Answer: value(0)},
			{Op: api.OpPop, Begin: 17, End: 20, Point: 20, Answer: empty},
		},
		Trace: []api.Access{
			{Move: 8, Kind: api.AccessLoad, Addr: 7},
			{Move: 11, Kind: api.AccessSwap, Addr: 7, New: 1},
			{Move: 20, Kind: api.AccessLoad, Addr: 2},
		},
		Words: words,
	})
	wantUntil(t, "all kinds", example(), moves, empty, 21)
	wantUntil(t, "all kinds", example(), moves, value(0), 12)
	wantUntil(t, "all kinds", example(), moves, done, len(moves))
}

// meeting is a script of two threads whose calls meet: a push is cut by another one, and a pop by both.
func meeting() []api.Move {
	return slices.Concat(
		with(register(0), 2), with(register(1), 3),
		with(push(0, 5), 6), with(push(1, 6), 7), with(step(0), 3),
		with(pop(1), 4), with(pop(0), 20), with(step(1), 20))
}

// P16.1: two threads by turns; their swaps fail and are made anew, as the pool's do.
func TestCallsThatMeet(t *testing.T) {
	c, moves := threads(2), meeting()
	run := plain(t, c, moves)
	fails := 0
	for _, a := range run.Trace {
		if a.Kind == api.AccessSwap && a.Saw != a.Old {
			fails++
		}
	}
	if fails != 2 {
		t.Errorf("%d swaps fail", fails)
	}
	wantPlay(t, "a meeting", c, moves, run)
}

// later is a run whose moves from a number on have numbers greater by one.
func later(r api.Run, from int) api.Run {
	shift := func(number *int) {
		if *number >= from {
			*number++
		}
	}
	for i := range r.Calls {
		shift(&r.Calls[i].Begin)
		shift(&r.Calls[i].End)
		shift(&r.Calls[i].Point)
	}
	for i := range r.Trace {
		shift(&r.Trace[i].Move)
	}
	for i := range r.Shifts {
		shift(&r.Shifts[i].Move)
	}
	return r
}

// P16.1: a move that does nothing has its place wherever it stands: the moves behind it have the next numbers, and
// nothing else is changed.
func TestPlaceOfEachMoveThatDoesNothing(t *testing.T) {
	c, moves := threads(2), meeting()
	kinds := map[string][]api.Move{
		"no such thread":  {step(-1), step(2), step(3), register(2), push(-2, 1), pop(least), flush(greatest), step(1 << 32), flush(-1 << 32)},
		"no such op":      {move(0, api.OpLook, 0), move(1, api.OpBump, 0), move(0, 999, 0), move(1, -1, 0), move(0, least, 0), move(1, greatest, 0), move(0, api.OpPin, 0)},
		"an idle's step":  {step(0), step(1)},
		"a busy's call":   {push(0, 7), pop(1), flush(0), flush(1)},
		"a refused call":  {register(0), register(1), move(0, api.OpGive, 1), move(1, api.OpRead, 3), move(0, api.OpClear, -1)},
		"without records": {push(0, 7), pop(1), move(0, api.OpScan, 0), move(1, api.OpUnregister, 0)},
	}
	for kind, list := range kinds {
		met := 0
		for at := range len(moves) + 1 {
			for _, mv := range list {
				if doesSomething(t, c, moves[:at], mv) {
					continue
				}
				met++
				wantPlay(t, kind, c, slices.Insert(slices.Clone(moves), at, mv), later(plain(t, c, moves), at))
			}
		}
		if met < 10 {
			t.Errorf("%s: only %d places", kind, met)
		}
	}
}

// doesSomething tells whether a move does something behind some others, on a machine of the pool.
func doesSomething(t *testing.T, c api.Config, moves []api.Move, mv api.Move) bool {
	t.Helper()
	m, e := pool.New(c)
	if e != api.OK {
		t.Fatal(e)
	}
	for _, mv := range moves {
		m.Move(mv)
	}
	return m.Move(mv)
}

// P16.1: each beginning of a script has the run of that beginning: calls that haven't ended stand as they are.
func TestEachBeginning(t *testing.T) {
	c, moves := threads(2), meeting()
	for n := range len(moves) + 1 {
		wantPlay(t, "a beginning", c, moves[:n], plain(t, c, moves[:n]))
	}
}

// P16.1: each number of threads; all make calls, by turns and one behind the other.
func TestEachNumberOfThreads(t *testing.T) {
	for n := 1; n <= api.MaxThreads; n++ {
		c := threads(n)
		moves := registers(c)
		for thread := range n {
			moves = append(moves, push(thread, thread))
		}
		for range 10 {
			for thread := range n {
				moves = append(moves, step(n-1-thread))
			}
		}
		for thread := range n {
			moves = append(moves, with(pop(thread), 40)...)
		}
		run := plain(t, c, moves)
		if count := len(run.Calls); count < 2*n {
			t.Errorf("%d threads: %d calls", n, count)
		}
		wantPlay(t, "all threads", c, moves, run)
	}
}

// P4: any int is answered as it was given.
func TestAnyValue(t *testing.T) {
	for _, v := range []int{least, -1, 0, 1, greatest} {
		moves := slices.Concat(with(register(0), 2), with(push(0, v), 7), with(pop(0), 13))
		run, e := replay.Play(example(), moves)
		if e != api.OK || len(run.Calls) != 3 || run.Calls[2].Answer != value(v) {
			t.Errorf("%d: %+v, %d", v, run.Calls, e)
		}
		wantUntil(t, "any value", example(), append(moves, idles(3)...), value(v), map[bool]int{true: 3, false: 25}[v == 0])
	}
}
