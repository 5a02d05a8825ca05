package deque_test

import (
	"slices"
	"sync"
	"testing"

	"reclaim/api"
	"reclaim/deque"
)

// within is a list in the midst of a greater one, with edges around it.
func within[T any](values []T, edge T) []T {
	return append(append([]T{edge}, values...), edge, edge, edge, edge)
}

// inner is the list within, with all behind it as its spare room.
func inner[T any](around []T) []T { return around[1 : len(around)-4] }

// around is a run each of whose lists stands within a greater one.
func around(r api.Run) api.Run {
	return api.Run{
		Calls:  within(r.Calls, took(9, value(9))),
		Trace:  within(r.Trace, load(9, 9, 9)),
		Shifts: within(r.Shifts, api.Shift{Slot: 9}),
		Words:  within(r.Words, 99),
	}
}

func innerRun(r api.Run) api.Run {
	return api.Run{Calls: inner(r.Calls), Trace: inner(r.Trace), Shifts: inner(r.Shifts), Words: inner(r.Words)}
}

func cloneRun(r api.Run) api.Run {
	return api.Run{
		Calls: slices.Clone(r.Calls), Trace: slices.Clone(r.Trace), Shifts: slices.Clone(r.Shifts), Words: slices.Clone(r.Words),
	}
}

// smear makes all of a list another, its spare room too.
func smear[T any](list []T, with T) {
	all := list[:cap(list)]
	for i := range all {
		all[i] = with
	}
}

func smearRun(r api.Run) {
	smear(r.Calls, took(8, value(8)))
	smear(r.Trace, load(8, 8, 8))
	smear(r.Shifts, api.Shift{Slot: 8})
	smear(r.Words, 88)
}

// P6: what is handed in stays as it was, its spare room too.
func TestChangesNothing(t *testing.T) {
	eachChance(40, func(d api.Deque, moves []api.Move) {
		script := within(moves, take())
		kept := slices.Clone(script)
		r, _ := deque.Play(d, inner(script))
		if !slices.Equal(script, kept) {
			t.Fatal("Play has changed the moves")
		}
		slices.Reverse(r.Calls) // so that the points don't rise
		handed := around(r)
		same := cloneRun(handed)
		deque.Left(d, inner(handed.Words))
		deque.Holds(d, innerRun(handed))
		deque.Spread(d, innerRun(handed))
		if !sameRun(handed, same) {
			t.Fatal("Left, Holds or Spread has changed the run")
		}
	})
}

// P6: what is done to one answer, or to what was handed in, is seen in no other.
func TestSharesNothing(t *testing.T) {
	eachChance(40, func(d api.Deque, moves []api.Move) {
		y := yardOf(t, d)
		script := slices.Clone(moves)
		first, _ := deque.Play(d, script)
		played := cloneRun(first)
		for i, mv := range moves {
			if i == len(moves)/2 {
				smearRun(y.m.Run())
			}
			y.m.Move(mv)
		}
		smear(script, take())
		wantRun(t, first, played)
		second, _ := deque.Play(d, moves)
		smearRun(first)
		wantRun(t, second, played)
		wantRun(t, y.m.Run(), played)

		left, _ := deque.Left(d, second.Words)
		leftToo, _ := deque.Left(d, second.Words)
		spread, _ := deque.Spread(d, second)
		spreadToo, _ := deque.Spread(d, second)
		keptLeft, keptSpread := slices.Clone(left), slices.Clone(spread)
		smear(left, 66)
		smear(spread, 66)
		wantRun(t, second, played)
		smearRun(second)
		if !slices.Equal(leftToo, keptLeft) || !slices.Equal(spreadToo, keptSpread) {
			t.Fatal("two answers of Left or of Spread share memory, or one does with the run")
		}
	})
}

// P6: no two lists of one answer share memory: what is put behind one is seen in no other.
func TestListsOfOneAnswerShareNothing(t *testing.T) {
	eachChance(20, func(d api.Deque, moves []api.Move) {
		want := playOf(t, d, moves...)
		r := playOf(t, d, moves...)
		smear(r.Calls, took(8, value(8)))
		smear(r.Trace, load(8, 8, 8))
		if len(r.Shifts) != 0 || !slices.Equal(r.Words, want.Words) {
			t.Fatal("lists share memory")
		}
	})
}

// P6: what is answered hangs on the arguments alone, also where many ask at the same time.
func TestHangsOnItsArgumentsAlone(t *testing.T) {
	d := dequeOf(3, 2)
	c := dice(3)
	moves := chanceMoves(&c, d, 600)
	want := playOf(t, d, moves...)
	spread, _ := deque.Spread(d, want)
	left, _ := deque.Left(d, want.Words)
	var all sync.WaitGroup
	for range 8 {
		all.Go(func() {
			for range 5 {
				r, _ := deque.Play(d, moves)
				so, _ := deque.Holds(d, r)
				counts, _ := deque.Spread(d, r)
				values, _ := deque.Left(d, r.Words)
				if !sameRun(r, want) || !so || !slices.Equal(counts, spread) || !slices.Equal(values, left) {
					t.Error("another answer")
				}
			}
		})
	}
	all.Wait()
}

// P7: nil and empty lists are the same.
func TestNilAndEmpty(t *testing.T) {
	d := example()
	none, e := deque.Play(d, nil)
	some, f := deque.Play(d, []api.Move{})
	if !sameRun(none, some) || e != api.OK || f != api.OK {
		t.Errorf("Play = %+v, %d and %+v, %d", none, e, some, f)
	}
	words := make([]uint64, 4)
	for _, r := range []api.Run{
		{Words: words},
		{Words: words, Calls: []api.Call{}, Trace: []api.Access{}, Shifts: []api.Shift{}},
	} {
		so, e := deque.Holds(d, r)
		list, f := deque.Spread(d, r)
		if !so || e != api.OK || !slices.Equal(list, []int{0, 0}) || f != api.OK {
			t.Errorf("%v, %d, %v, %d", so, e, list, f)
		}
	}
	for _, words := range [][]uint64{nil, {}} {
		wantNoRun(t, d, words)
	}
}

// P5: whatever is given, the calls end and none panics; Holds and Spread are as their words say.
func TestWildArguments(t *testing.T) {
	c := dice(123)
	number := func() int {
		wild := []int{0, 0, 1, 1, -1, 2, 3, 90, 91, 92, 16, 256, -1 << 63, 1<<63 - 1, 1 << 32}
		return wild[c.below(len(wild))]
	}
	met := map[string]int{}
	for range 6000 {
		d := dequeOf(number(), number())
		if c.below(2) == 0 {
			d = chanceDeque(&c)
		}
		may := d.Threads >= 1 && d.Threads <= api.MaxThreads && d.Room >= 1 && d.Room <= api.MaxRoom
		r := api.Run{Words: make([]uint64, c.below(6))}
		if may && c.below(8) > 0 {
			r.Words = make([]uint64, 2+d.Room)
		}
		for i := range r.Words {
			if c.below(8) == 0 {
				r.Words[i] = uint64(number())
			}
		}
		var moves []api.Move
		for range c.below(12) {
			moves = append(moves, api.Move{Thread: number(), Op: api.Op(number()), Arg: number(), Data: number()})
			r.Calls = append(r.Calls, wildCall(&c, number))
		}
		deque.New(d)
		deque.Play(d, moves)
		deque.Left(d, r.Words)
		deque.Holds(d, r)
		deque.Spread(d, r)
		if may {
			met[wantJudged(t, d, r)]++
		}
	}
	wantMet(t, met, 100, "true", "false", "error")
}

// wildCall is mostly one that may be, as far as it goes.
func wildCall(c *dice, number func() int) api.Call {
	call := api.Call{
		Op: api.OpDequePush + api.Op(c.below(3)), Arg: number(), Begin: -3, End: 200, Point: c.below(150) - 1,
		Answer: api.Answer{Kind: api.AnswerKind(1 + c.below(4))},
	}
	if call.Answer.Kind == api.AnswerValue {
		call.Answer.Value = number()
	}
	switch c.below(12) {
	case 0:
		call.Thread = number()
	case 1:
		call.Begin = number()
	case 2:
		call.End = number()
	case 3:
		call.Point = number()
	case 4, 5, 6, 7:
		call.End, call.Answer = -1, api.Answer{}
	case 8:
		call.Point = -1
	}
	return call
}
