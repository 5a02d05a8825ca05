package ring_test

import (
	"slices"
	"sync"
	"testing"

	"reclaim/api"
	"reclaim/ring"
)

// within is a list in the midst of a greater one, with edges around it.
func within[T any](values []T, edge T) []T {
	return append(append([]T{edge}, values...), edge, edge, edge, edge)
}

// inner is the list within, with all behind it as its spare room.
func inner[T any](around []T) []T { return around[1 : len(around)-4] }

// around is a run each of whose lists stands within a greater one.
func around(r api.Run) api.Run {
	return api.Run{
		Calls:  within(r.Calls, api.Call{Op: api.OpPick, Answer: value(9)}),
		Trace:  within(r.Trace, gets(0, putsAt, 9)),
		Shifts: within(r.Shifts, api.Shift{Slot: 9}),
		Words:  within(r.Words, 99),
	}
}

func innerRun(r api.Run) api.Run {
	return api.Run{Calls: inner(r.Calls), Trace: inner(r.Trace), Shifts: inner(r.Shifts), Words: inner(r.Words)}
}

// smear makes all of a list another, its spare room too.
func smear[T any](list []T, with T) {
	all := list[:cap(list)]
	for i := range all {
		all[i] = with
	}
}

func smearRun(r api.Run) {
	smear(r.Calls, api.Call{Op: api.OpPut, Arg: 8, Answer: full})
	smear(r.Trace, gets(0, picksAt, 8))
	smear(r.Shifts, api.Shift{Slot: 8})
	smear(r.Words, 88)
}

// mixed is the run with its calls and its accesses the other way round, so that nothing rises.
func mixed(r api.Run) api.Run {
	slices.Reverse(r.Calls)
	slices.Reverse(r.Trace)
	return r
}

// P6: what is handed in stays as it was, its spare room too.
func TestChangesNothing(t *testing.T) {
	eachChance(40, func(c api.Ring, moves []api.Move) {
		script := within(moves, pick(0))
		kept := slices.Clone(script)
		r, _ := ring.Play(c, inner(script))
		if !slices.Equal(script, kept) {
			t.Fatal("Play has changed the moves")
		}
		for _, handed := range []api.Run{around(r), around(mixed(r))} {
			same := cloneRun(handed)
			ring.Tickets(c, innerRun(handed))
			ring.Holds(c, innerRun(handed))
			if !sameRun(handed, same) {
				t.Fatal("Tickets or Holds has changed the run")
			}
		}
	})
}

// P6: what is done to one answer, or to what was handed in, is seen in no other.
func TestSharesNothing(t *testing.T) {
	eachChance(40, func(c api.Ring, moves []api.Move) {
		w := wheelOf(t, c)
		script := slices.Clone(moves)
		first, _ := ring.Play(c, script)
		played := cloneRun(first)
		for i, mv := range moves {
			if i == len(moves)/2 {
				smearRun(w.m.Run())
			}
			w.m.Move(mv)
		}
		smear(script, pick(0))
		wantRun(t, first, played)
		second, _ := ring.Play(c, moves)
		smearRun(first)
		wantRun(t, second, played)
		wantRun(t, w.m.Run(), played)

		puts, picks, _ := ring.Tickets(c, second)
		otherPuts, otherPicks, _ := ring.Tickets(c, second)
		keptPuts, keptPicks := slices.Clone(puts), slices.Clone(picks)
		smear(puts, api.Ticket{Call: 66})
		if !slices.Equal(picks, keptPicks) {
			t.Fatal("the two lists of Tickets share memory")
		}
		smear(picks, api.Ticket{Call: 67})
		wantRun(t, second, played)
		smearRun(second)
		if !slices.Equal(otherPuts, keptPuts) || !slices.Equal(otherPicks, keptPicks) {
			t.Fatal("two answers of Tickets share memory, or one does with the run")
		}
	})
}

// P6: Words tells new words each time; a machine has its own.
func TestWordsShareNothing(t *testing.T) {
	c := ringOf(2, 3)
	w := wheelOf(t, c)
	first, _ := ring.Words(c)
	second, _ := ring.Words(c)
	smear(first, 9)
	w.wantWords(t, 0, 0, 0, 0, 1, 0, 2, 0)
	if !slices.Equal(second, w.m.Run().Words) {
		t.Errorf("Words = %d", second)
	}
	w.calls(t, done, put(0, 7))
	if third, _ := ring.Words(c); !slices.Equal(third, second) {
		t.Errorf("Words = %d", third)
	}
}

// P6: no two lists of one answer share memory: what is put behind one is seen in no other.
func TestListsOfOneAnswerShareNothing(t *testing.T) {
	eachChance(20, func(c api.Ring, moves []api.Move) {
		want := playOf(t, c, moves...)
		r := playOf(t, c, moves...)
		smear(r.Calls, api.Call{})
		smear(r.Trace, load(8, 8, 8))
		if len(r.Shifts) != 0 || !slices.Equal(r.Words, want.Words) {
			t.Fatal("lists share memory")
		}
	})
}

// P6: what is answered hangs on the arguments alone, also where many ask at the same time.
func TestHangsOnItsArgumentsAlone(t *testing.T) {
	c := ringOf(3, 2)
	d := dice(3)
	moves := chanceMoves(&d, c, 600)
	want := playOf(t, c, moves...)
	puts, picks, _ := ring.Tickets(c, want)
	var all sync.WaitGroup
	for range 8 {
		all.Go(func() {
			for range 5 {
				r, _ := ring.Play(c, moves)
				so, _ := ring.Holds(c, r)
				otherPuts, otherPicks, _ := ring.Tickets(c, r)
				if !sameRun(r, want) || !so || !slices.Equal(otherPuts, puts) || !slices.Equal(otherPicks, picks) {
					t.Error("another answer")
				}
			}
		})
	}
	all.Wait()
}

// P7: nil and empty lists are the same.
func TestNilAndEmpty(t *testing.T) {
	c := example()
	none, e := ring.Play(c, nil)
	some, f := ring.Play(c, []api.Move{})
	if !sameRun(none, some) || e != api.OK || f != api.OK {
		t.Errorf("Play = %+v, %d and %+v, %d", none, e, some, f)
	}
	for _, r := range []api.Run{{}, {Calls: []api.Call{}, Trace: []api.Access{}, Shifts: []api.Shift{}, Words: []uint64{}}} {
		wantTickets(t, c, r, nil, nil)
		if so, e := ring.Holds(c, r); !so || e != api.OK {
			t.Errorf("Holds = %v, %d", so, e)
		}
	}
}

// P5: whatever is given, the calls end and none panics; Tickets and Holds are as their words say.
func TestWildArguments(t *testing.T) {
	d := dice(123)
	number := func() int {
		wild := []int{0, 0, 0, 1, 1, -1, 2, 3, 100, 101, 16, 64, -1 << 63, 1<<63 - 1, 1 << 32}
		return wild[d.below(len(wild))]
	}
	met := map[string]int{}
	for range 20000 {
		c := ringOf(number(), number())
		if d.below(2) == 0 {
			c = chanceRing(&d)
		}
		var moves []api.Move
		var r api.Run
		for range d.below(12) {
			moves = append(moves, api.Move{Thread: number(), Op: api.Op(number()), Arg: number(), Data: number()})
			r.Calls = append(r.Calls, wildCall(&d, number))
		}
		for range d.below(12) {
			r.Trace = append(r.Trace, wildAccess(&d, number))
		}
		ring.Words(c)
		ring.New(c)
		ring.Play(c, moves)
		ring.Tickets(c, r)
		ring.Holds(c, r)
		if ring.Check(c) == api.OK {
			wantPlain(t, c, r)
			met[wantJudged(t, c, r)]++
		}
	}
	wantMet(t, met, 100, "true", "false")
}

func wildCall(d *dice, number func() int) api.Call {
	c := api.Call{Thread: number(), Op: api.OpPut + api.Op(d.below(2)), Arg: number(), Begin: -1, End: 3, Point: number()}
	c.Answer = api.Answer{Kind: api.AnswerKind(d.below(7)), Value: number()}
	switch d.below(6) {
	case 0:
		c.Begin = number()
	case 1:
		c.End = number()
	case 2:
		c.Op = api.Op(number())
	case 3:
		c.End = -1
	}
	return c
}

func wildAccess(d *dice, number func() int) api.Access {
	a := at(d.below(4), gets(number(), d.below(2), number()))
	switch d.below(6) {
	case 0:
		a.Move = number()
	case 1:
		a.Addr = number()
	case 2:
		a.Saw = uint64(number())
	case 3:
		a.Kind = api.AccessKind(number())
	}
	return a
}
