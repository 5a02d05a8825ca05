package epoch_test

import (
	"slices"
	"sync"
	"testing"

	"reclaim/api"
	"reclaim/epoch"
)

// within is a list in the midst of a greater one, with edges around it.
func within[T any](values []T, edge T) []T {
	return append(append([]T{edge}, values...), edge, edge, edge, edge)
}

// inner is the list within, with all behind it as its spare room.
func inner[T any](around []T) []T { return around[1 : len(around)-4] }

// around is a run each of whose lists stands within a greater one.
func around(r api.Run) api.Run {
	return api.Run{
		Calls:  within(r.Calls, drew(9, value(9))),
		Trace:  within(r.Trace, load(9, 9, 9)),
		Shifts: within(r.Shifts, shift(9, 9, 9, 1, 2)),
		Words:  within(r.Words, 99),
	}
}

func innerRun(r api.Run) api.Run {
	return api.Run{Calls: inner(r.Calls), Trace: inner(r.Trace), Shifts: inner(r.Shifts), Words: inner(r.Words)}
}

func cloneRun(r api.Run) api.Run {
	return api.Run{
		Calls: slices.Clone(r.Calls), Trace: slices.Clone(r.Trace), Shifts: slices.Clone(r.Shifts), Words: slices.Clone(r.Words),
	}
}

// smear makes all of a list another, its spare room too.
func smear[T any](list []T, with T) {
	all := list[:cap(list)]
	for i := range all {
		all[i] = with
	}
}

func smearRun(r api.Run) {
	smear(r.Calls, drew(8, value(8)))
	smear(r.Trace, load(8, 8, 8))
	smear(r.Shifts, shift(8, 8, 8, 3, 4))
	smear(r.Words, 88)
}

// P6: what is handed in stays as it was, its spare room too.
func TestChangesNothing(t *testing.T) {
	eachChance(30, func(c api.Config, moves []api.Move) {
		script := within(moves, draw(1))
		kept := slices.Clone(script)
		r, _ := epoch.Play(c, inner(script))
		if !slices.Equal(script, kept) {
			t.Fatal("Play has changed the moves")
		}
		slices.Reverse(r.Calls) // so that the points don't rise
		handed := around(r)
		same := cloneRun(handed)
		epoch.Holds(c, innerRun(handed))
		epoch.Pinned(c, innerRun(handed))
		if !sameRun(handed, same) {
			t.Fatal("Holds or Pinned has changed the run")
		}
	})
}

// P6: answers are new memory: what is done to one of them, or to what was handed in, is seen in no other.
func TestSharesNothing(t *testing.T) {
	eachChance(30, func(c api.Config, moves []api.Move) {
		one, _ := epoch.Words(c)
		want := slices.Clone(one)
		two, _ := epoch.Words(c)
		smear(one, 77)
		if !slices.Equal(two, want) {
			t.Fatal("two answers of Words share memory")
		}
		smear(two, 77)

		y := yardOf(t, c)
		script := slices.Clone(moves)
		first, _ := epoch.Play(c, script)
		played := cloneRun(first)
		for i, mv := range moves {
			if i == len(moves)/2 {
				smearRun(y.m.Run())
			}
			y.m.Move(mv)
		}
		smear(script, draw(0))
		wantRun(t, first, played)
		second, _ := epoch.Play(c, moves)
		smearRun(first)
		wantRun(t, second, played)
		wantRun(t, y.m.Run(), played)

		list, _ := epoch.Pinned(c, second)
		again, _ := epoch.Pinned(c, second)
		pinned := slices.Clone(list)
		smear(list, 66)
		wantRun(t, second, played)
		smearRun(second)
		if !slices.Equal(again, pinned) {
			t.Fatal("two answers of Pinned share memory, or one does with the run")
		}
	})
}

// P6: no two lists of one answer share memory: what is put behind one is seen in no other.
func TestListsOfOneAnswerShareNothing(t *testing.T) {
	eachChance(20, func(c api.Config, moves []api.Move) {
		want := playOf(t, c, moves...)
		r := playOf(t, c, moves...)
		smear(r.Calls, drew(8, value(8)))
		smear(r.Trace, load(8, 8, 8))
		if !slices.Equal(r.Shifts, want.Shifts) || !slices.Equal(r.Words, want.Words) {
			t.Fatal("lists share memory")
		}
	})
}

// P6: what is answered hangs on the arguments alone, also where many ask at the same time.
func TestHangsOnItsArgumentsAlone(t *testing.T) {
	c := configOf(3, 2, 1, 4)
	d := dice(3)
	moves := chanceMoves(&d, c, 600)
	want := playOf(t, c, moves...)
	pinned, _ := epoch.Pinned(c, want)
	var all sync.WaitGroup
	for range 8 {
		all.Go(func() {
			for range 5 {
				r, _ := epoch.Play(c, moves)
				so, _ := epoch.Holds(c, r)
				list, _ := epoch.Pinned(c, r)
				if !sameRun(r, want) || !so || !slices.Equal(list, pinned) {
					t.Error("another answer")
				}
			}
		})
	}
	all.Wait()
}

// P7: nil and empty lists are the same.
func TestNilAndEmpty(t *testing.T) {
	c := example()
	none, e := epoch.Play(c, nil)
	some, f := epoch.Play(c, []api.Move{})
	if !sameRun(none, some) || e != api.OK || f != api.OK {
		t.Errorf("Play = %+v, %d and %+v, %d", none, e, some, f)
	}
	words, _ := epoch.Words(c)
	for _, r := range []api.Run{
		{Words: words},
		{Words: words, Calls: []api.Call{}, Trace: []api.Access{}, Shifts: []api.Shift{}},
	} {
		so, e := epoch.Holds(c, r)
		list, f := epoch.Pinned(c, r)
		if !so || e != api.OK || !slices.Equal(list, []int{-1, -1}) || f != api.OK {
			t.Errorf("%v, %d, %v, %d", so, e, list, f)
		}
	}
}

// P5: whatever is given, the calls end and none panics.
func TestWildArguments(t *testing.T) {
	d := dice(123)
	number := func() int {
		wild := []int{0, 1, -1, 2, 3, 80, 81, 82, 83, 84, 85, 16, 1024, -1 << 63, 1<<63 - 1, 1 << 32}
		return wild[d.below(len(wild))]
	}
	for range 3000 {
		c := api.Config{
			Threads: number(), Records: number(), Hazards: number(), Retire: number(), Cache: number(), Slots: number(), Buckets: number(),
		}
		if d.below(2) == 0 {
			c = chanceConfig(&d)
		}
		var moves []api.Move
		r := api.Run{Words: make([]uint64, d.below(60))}
		if d.below(2) == 0 {
			r.Words, _ = epoch.Words(c)
		}
		for range d.below(40) {
			moves = append(moves, api.Move{Thread: number(), Op: api.Op(number()), Arg: number(), Data: number()})
			r.Calls = append(r.Calls, api.Call{
				Thread: number(), Op: api.OpPin + api.Op(d.below(6)), Arg: number(), Begin: number(), End: number(), Point: number(),
				Answer: api.Answer{Kind: api.AnswerKind(d.below(7)), Value: number()},
			})
		}
		epoch.Words(c)
		epoch.Local(c, number())
		epoch.New(c)
		epoch.Play(c, moves)
		epoch.Pinned(c, r)
		if so, e := epoch.Holds(c, r); e == api.OK && so != explains(r) {
			t.Fatalf("Holds = %v: %+v", so, r.Calls)
		}
	}
}
