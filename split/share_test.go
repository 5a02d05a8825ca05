package split_test

import (
	"slices"
	"sync"
	"testing"

	"reclaim/api"
	"reclaim/split"
)

// within is a list in the midst of a greater one, with edges around it.
func within[T any](values []T, edge T) []T {
	return append(append([]T{edge}, values...), edge, edge, edge, edge)
}

// inner is the list within, with all behind it as its spare room.
func inner[T any](around []T) []T { return around[1 : len(around)-4] }

// around is a run each of whose lists stands within a greater one.
func around(r api.Run) api.Run {
	return api.Run{
		Calls:  within(r.Calls, got(9, 9, value(9))),
		Trace:  within(r.Trace, load(9, 9, 9)),
		Shifts: within(r.Shifts, api.Shift{Slot: 9}),
		Words:  within(r.Words, 99),
	}
}

func innerRun(r api.Run) api.Run {
	return api.Run{Calls: inner(r.Calls), Trace: inner(r.Trace), Shifts: inner(r.Shifts), Words: inner(r.Words)}
}

func cloneRun(r api.Run) api.Run {
	return api.Run{
		Calls: slices.Clone(r.Calls), Trace: slices.Clone(r.Trace), Shifts: slices.Clone(r.Shifts), Words: slices.Clone(r.Words),
	}
}

// smear makes all of a list another, its spare room too.
func smear[T any](list []T, with T) {
	all := list[:cap(list)]
	for i := range all {
		all[i] = with
	}
}

func smearRun(r api.Run) {
	smear(r.Calls, got(8, 8, value(8)))
	smear(r.Trace, load(8, 8, 8))
	smear(r.Shifts, api.Shift{Slot: 8})
	smear(r.Words, 88)
}

// P6: what is handed in stays as it was, its spare room too.
func TestChangesNothing(t *testing.T) {
	eachChance(t, 40, func(s api.Split, moves []api.Move) {
		script := within(moves, get(0, 3))
		kept := slices.Clone(script)
		r, _ := split.Play(s, inner(script))
		if !slices.Equal(script, kept) {
			t.Fatal("Play has changed the moves")
		}
		slices.Reverse(r.Calls) // so that the points don't rise
		handed := around(r)
		same := cloneRun(handed)
		split.Look(s, inner(handed.Words))
		split.Buckets(s, inner(handed.Words))
		split.Holds(s, innerRun(handed))
		if !sameRun(handed, same) {
			t.Fatal("Look, Buckets or Holds has changed the run")
		}
	})
}

// P6: what is done to one answer, or to what was handed in, is seen in no other.
func TestSharesNothing(t *testing.T) {
	eachChance(t, 40, func(s api.Split, moves []api.Move) {
		y := yardOf(t, s)
		script := slices.Clone(moves)
		first, _ := split.Play(s, script)
		played := cloneRun(first)
		for i, mv := range moves {
			if i == len(moves)/2 {
				smearRun(y.m.Run())
			}
			y.m.Move(mv)
		}
		smear(script, get(0, 3))
		wantRun(t, first, played)
		second, _ := split.Play(s, moves)
		smearRun(first)
		wantRun(t, second, played)
		wantRun(t, y.m.Run(), played)

		pairs, _ := split.Look(s, second.Words)
		pairsToo, _ := split.Look(s, second.Words)
		buckets, _ := split.Buckets(s, second.Words)
		bucketsToo, _ := split.Buckets(s, second.Words)
		keptPairs, keptBuckets := slices.Clone(pairs), slices.Clone(buckets)
		smear(pairs, api.Pair{Key: 66})
		smear(buckets, 66)
		wantRun(t, second, played)
		smearRun(second)
		if !slices.Equal(pairsToo, keptPairs) || !slices.Equal(bucketsToo, keptBuckets) {
			t.Fatal("two answers of Look or of Buckets share memory, or one does with the words")
		}
	})
}

// P6: the words at the beginning are new each time.
func TestWordsShareNothing(t *testing.T) {
	for _, s := range edges() {
		one, _ := split.Words(s)
		want := slices.Clone(one)
		other, _ := split.Words(s)
		y := yardOf(t, s)
		smear(one, 77)
		if !slices.Equal(other, want) || !slices.Equal(y.m.Run().Words, want) {
			t.Errorf("%+v: Words shares memory", s)
		}
	}
}

// P6: no two lists of one answer share memory: what is put behind one is seen in no other.
func TestListsOfOneAnswerShareNothing(t *testing.T) {
	eachChance(t, 20, func(s api.Split, moves []api.Move) {
		want := playOf(t, s, moves...)
		r := playOf(t, s, moves...)
		smear(r.Calls, got(8, 8, value(8)))
		smear(r.Trace, load(8, 8, 8))
		if !slices.Equal(r.Shifts, want.Shifts) || !slices.Equal(r.Words, want.Words) {
			t.Fatal("lists share memory")
		}
		smear(r.Shifts, api.Shift{Slot: 8})
		if !slices.Equal(r.Words, want.Words) {
			t.Fatal("lists share memory")
		}
	})
}

// P6: what is answered hangs on the arguments alone, also where many ask at the same time.
func TestHangsOnItsArgumentsAlone(t *testing.T) {
	s := splitOf(3, 1, 1, 14, 8, 1)
	d := dice(3)
	moves := chanceOf(t, &d, s).moves(900)
	want := playOf(t, s, moves...)
	pairs, _ := split.Look(s, want.Words)
	buckets, _ := split.Buckets(s, want.Words)
	var all sync.WaitGroup
	for range 8 {
		all.Go(func() {
			for range 5 {
				r, _ := split.Play(s, moves)
				so, _ := split.Holds(s, r)
				x, _ := split.Look(s, r.Words)
				b, _ := split.Buckets(s, r.Words)
				if !sameRun(r, want) || !so || !slices.Equal(x, pairs) || !slices.Equal(b, buckets) {
					t.Error("another answer")
				}
			}
		})
	}
	all.Wait()
}

// P7: nil and empty lists are the same.
func TestNilAndEmpty(t *testing.T) {
	s := example()
	none, e := split.Play(s, nil)
	some, f := split.Play(s, []api.Move{})
	if !sameRun(none, some) || e != api.OK || f != api.OK {
		t.Errorf("Play = %+v, %d and %+v, %d", none, e, some, f)
	}
	for _, r := range []api.Run{
		{Words: none.Words},
		{Words: none.Words, Calls: []api.Call{}, Trace: []api.Access{}, Shifts: []api.Shift{}},
	} {
		if so, e := split.Holds(s, r); !so || e != api.OK {
			t.Errorf("%v, %d", so, e)
		}
	}
	for _, words := range [][]uint64{nil, {}} {
		(&paper{s, words}).wantErr(t, "no words", api.ErrRange)
	}
}

// P5: whatever is given, the calls end and none panics; those that read words and runs are as the chapter's words
// say.
func TestWildArguments(t *testing.T) {
	c := dice(123)
	number := func() int {
		wild := []int{0, 0, 1, 1, 2, 3, 4, -1, 16, 60, 61, 62, 64, 1024, 1<<30 - 1, 1 << 30, 1<<31 - 1, 1 << 31, -1 << 63, 1<<63 - 1, 1 << 32}
		return wild[c.below(len(wild))]
	}
	met := map[string]int{}
	for range 6000 {
		s := api.Split{Config: api.Config{
			Threads: number(), Records: number(), Hazards: number(), Retire: number(), Cache: number(), Slots: number(), Buckets: number(),
		}, Load: number()}
		if c.below(2) == 0 {
			s = chanceSplit(&c)
		}
		words, e := split.Words(s)
		if e != api.OK || c.below(8) == 0 {
			words = make([]uint64, c.below(60))
		}
		for range c.below(4) {
			if len(words) > 0 {
				words[c.below(len(words))] = uint64(number())
			}
		}
		if e == api.OK && len(words) == sizeAt(s)+1 && c.below(2) == 0 {
			changeWord(&c, s, words)
		}
		r := api.Run{Words: words}
		var moves []api.Move
		for range c.below(12) {
			moves = append(moves, api.Move{Thread: number(), Op: api.Op(number()), Arg: number(), Data: number()})
			r.Calls = append(r.Calls, wildCall(&c, number))
		}
		split.Place(number())
		split.Key(number())
		split.New(s)
		split.Play(s, moves)
		split.Look(s, r.Words)
		split.Buckets(s, r.Words)
		split.Holds(s, r)
		if e == api.OK && len(words) == sizeAt(s)+1 {
			met[wantJudged(t, s, r)]++
			wantRead(t, s, words)
		}
	}
	wantMet(t, met, 100, "true", "false", "error")
}

// wildCall is mostly one that may be, as far as it goes.
func wildCall(c *dice, number func() int) api.Call {
	call := api.Call{
		Op: ops[c.below(3)], Arg: c.below(3), Data: number(), Begin: -3, End: 200, Point: c.below(150),
		Answer: api.Answer{Kind: api.AnswerNo},
	}
	switch c.below(12) {
	case 0:
		call.Answer = api.Answer{Kind: api.AnswerKind(c.below(7)), Value: number()}
	case 1:
		call.Begin = number()
	case 2:
		call.End = number()
	case 3:
		call.Point = number()
	case 4, 5, 6:
		call.Op = api.OpGet
		call.End, call.Answer = -1, api.Answer{}
	case 7:
		call.Arg = number()
	case 8:
		call.Op = api.Op(number())
	}
	if call.Op == api.OpAdd && c.below(2) == 0 {
		call.Answer = full
	}
	return call
}
