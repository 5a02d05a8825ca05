package locks_test

import (
	"slices"
	"sync"
	"testing"

	"reclaim/api"
	"reclaim/locks"
)

// within is a list in the midst of a greater one, with edges around it.
func within[T any](values []T, edge T) []T {
	return append(append([]T{edge}, values...), edge, edge, edge, edge)
}

// inner is the list within, with all behind it as its spare room.
func inner[T any](around []T) []T { return around[1 : len(around)-4] }

// around is a run each of whose lists stands within a greater one.
func around(r api.Run) api.Run {
	return api.Run{
		Calls:  within(r.Calls, api.Call{Op: api.OpAcquire, Answer: value(9)}),
		Trace:  within(r.Trace, swap(0, 1, 0, 9)),
		Shifts: within(r.Shifts, api.Shift{Slot: 9}),
		Words:  within(r.Words, 99),
	}
}

func innerRun(r api.Run) api.Run {
	return api.Run{Calls: inner(r.Calls), Trace: inner(r.Trace), Shifts: inner(r.Shifts), Words: inner(r.Words)}
}

// smear makes all of a list another, its spare room too.
func smear[T any](list []T, with T) {
	all := list[:cap(list)]
	for i := range all {
		all[i] = with
	}
}

func smearRun(r api.Run) {
	smear(r.Calls, api.Call{Op: api.OpTouch, Arg: 8, Answer: value(7)})
	smear(r.Trace, store(0, 1, 8))
	smear(r.Shifts, api.Shift{Slot: 8})
	smear(r.Words, 88)
}

// mixed is the run with its calls and its accesses the other way round, so that nothing rises.
func mixed(r api.Run) api.Run {
	slices.Reverse(r.Calls)
	slices.Reverse(r.Trace)
	return r
}

// P6: what is handed in stays as it was, its spare room too.
func TestChangesNothing(t *testing.T) {
	eachChance(60, func(c api.Locks, moves []api.Move) {
		script := within(moves, acquire(0))
		kept := slices.Clone(script)
		r, _ := locks.Play(c, inner(script))
		if !slices.Equal(script, kept) {
			t.Fatal("Play has changed the moves")
		}
		for _, handed := range []api.Run{around(r), around(mixed(r))} {
			same := cloneRun(handed)
			locks.Stays(c, innerRun(handed))
			locks.Holds(c, innerRun(handed))
			if !sameRun(handed, same) {
				t.Fatal("Stays or Holds has changed the run")
			}
		}
	})
}

// P6: what is done to one answer, or to what was handed in, is seen in no other.
func TestSharesNothing(t *testing.T) {
	eachChance(60, func(c api.Locks, moves []api.Move) {
		g := gateOf(t, c)
		script := slices.Clone(moves)
		first, _ := locks.Play(c, script)
		played := cloneRun(first)
		for i, mv := range moves {
			if i == len(moves)/2 {
				smearRun(g.m.Run())
			}
			g.m.Move(mv)
		}
		smear(script, acquire(0))
		wantRun(t, first, played)
		second, _ := locks.Play(c, moves)
		smearRun(first)
		wantRun(t, second, played)
		wantRun(t, g.m.Run(), played)

		stays, _ := locks.Stays(c, second)
		other, _ := locks.Stays(c, second)
		kept := slices.Clone(stays)
		smear(stays, api.Stay{Thread: 66})
		wantRun(t, second, played)
		smearRun(second)
		if !slices.Equal(other, kept) {
			t.Fatal("two answers of Stays share memory, or one does with the run")
		}
	})
}

// P6: Words tells new words each time; a machine has its own.
func TestWordsShareNothing(t *testing.T) {
	eachKind(t, 3, func(t *testing.T, c api.Locks) {
		g := gateOf(t, c)
		first, _ := locks.Words(c)
		second, _ := locks.Words(c)
		smear(first, 9)
		if !slices.Equal(second, g.m.Run().Words) {
			t.Errorf("Words = %d", second)
		}
		g.calls(t, acquire(0), touch(0))
		if third, _ := locks.Words(c); !slices.Equal(third, second) {
			t.Errorf("Words = %d", third)
		}
	})
}

// P6: two machines of the same locks have nothing to do with each other: who is inside, which tickets and nodes they
// have.
func TestMachinesShareNothing(t *testing.T) {
	eachKind(t, 2, func(t *testing.T, c api.Locks) {
		one, other := gateOf(t, c), gateOf(t, c)
		one.calls(t, acquire(0), touch(0), release(0), acquire(1), touch(1))
		other.refuses(t, release(1), touch(1))
		other.calls(t, acquire(0), touch(0), release(0), acquire(1), touch(1))
		wantRun(t, other.m.Run(), playAlike(t, c))
		one.calls(t, release(1))
		other.refuses(t, acquire(1))
		other.calls(t, release(1))
		one.wantHolds(t)
		other.wantHolds(t)
	})
}

// playAlike is the run of the same calls, behind the two moves that are refused.
func playAlike(t *testing.T, c api.Locks) api.Run {
	t.Helper()
	moves := []api.Move{release(1), touch(1)}
	for _, mv := range []api.Move{acquire(0), touch(0), release(0), acquire(1), touch(1)} {
		moves = append(moves, mv)
		for {
			g := gateOf(t, c)
			for _, mv := range moves {
				g.m.Move(mv)
			}
			if !g.m.Busy(mv.Thread) {
				break
			}
			moves = append(moves, step(mv.Thread))
		}
	}
	return playOf(t, c, moves...)
}

// P6: no two lists of one answer share memory: what is put behind one is seen in no other.
func TestListsOfOneAnswerShareNothing(t *testing.T) {
	eachChance(40, func(c api.Locks, moves []api.Move) {
		want := playOf(t, c, moves...)
		r := playOf(t, c, moves...)
		smear(r.Calls, api.Call{})
		smear(r.Trace, load(8, 8, 8))
		if len(r.Shifts) != 0 || !slices.Equal(r.Words, want.Words) {
			t.Fatal("lists share memory")
		}
	})
}

// P6: what is answered hangs on the arguments alone, also where many ask at the same time.
func TestHangsOnItsArgumentsAlone(t *testing.T) {
	eachKind(t, 3, func(t *testing.T, c api.Locks) {
		d := dice(3)
		moves := chanceMoves(&d, c, 600)
		want := playOf(t, c, moves...)
		stays, _ := locks.Stays(c, want)
		var all sync.WaitGroup
		for range 8 {
			all.Go(func() {
				for range 5 {
					r, _ := locks.Play(c, moves)
					so, _ := locks.Holds(c, r)
					other, _ := locks.Stays(c, r)
					if !sameRun(r, want) || !so || !slices.Equal(other, stays) {
						t.Error("another answer")
					}
				}
			})
		}
		all.Wait()
	})
}

// P7: nil and empty lists are the same.
func TestNilAndEmpty(t *testing.T) {
	eachKind(t, 2, func(t *testing.T, c api.Locks) {
		without, e := locks.Play(c, nil)
		empty, f := locks.Play(c, []api.Move{})
		if !sameRun(without, empty) || e != api.OK || f != api.OK {
			t.Errorf("Play = %+v, %d and %+v, %d", without, e, empty, f)
		}
		for _, r := range []api.Run{{}, {Calls: []api.Call{}, Trace: []api.Access{}, Shifts: []api.Shift{}, Words: []uint64{}}} {
			if stays, e := locks.Stays(c, r); len(stays) != 0 || e != api.OK {
				t.Errorf("Stays = %v, %d", stays, e)
			}
			if so, e := locks.Holds(c, r); so || e != api.OK {
				t.Errorf("Holds = %v, %d", so, e)
			}
		}
	})
}

// P5: whatever is given, the calls end and none panics; Stays and Holds are as their words say.
func TestWildArguments(t *testing.T) {
	d := dice(123)
	number := func() int {
		wild := []int{0, 0, 0, 1, 1, -1, 2, 3, 120, 121, 124, 16, 7, -1 << 63, 1<<63 - 1, 1 << 32}
		return wild[d.below(len(wild))]
	}
	met := map[bool]int{}
	for range 30000 {
		c := locksOf(number(), api.LockKind(number()))
		if d.below(2) == 0 {
			c = chanceLocks(&d)
		}
		var moves []api.Move
		var r api.Run
		for range d.below(12) {
			moves = append(moves, api.Move{Thread: number(), Op: api.Op(number()), Arg: number(), Data: number()})
		}
		for range d.below(7) {
			r.Calls = append(r.Calls, wildCall(&d, number))
		}
		for range d.below(3) {
			r.Trace = append(r.Trace, api.Access{Move: number(), Thread: number(), Kind: api.AccessKind(number()), Addr: number()})
			r.Words = append(r.Words, uint64(d.below(3)))
		}
		locks.Words(c)
		locks.New(c)
		locks.Play(c, moves)
		stays, e := locks.Stays(c, r)
		if e == api.OK && !slices.Equal(stays, plainStays(r)) {
			t.Fatalf("Stays(%+v) = %+v", r, stays)
		}
		if locks.Check(c) == api.OK {
			met[wantJudged(t, c, r)]++
		} else if so, e := locks.Holds(c, r); so || e != api.ErrLocks || stays != nil {
			t.Fatalf("Holds = %v, %d", so, e)
		}
	}
	if met[true] < 500 || met[false] < 500 {
		t.Errorf("%v", met)
	}
}

func wildCall(d *dice, number func() int) api.Call {
	begin := d.below(20) - 5
	c := api.Call{Thread: d.below(3), Op: api.OpAcquire + api.Op(d.below(5)), Begin: begin, End: begin + d.below(6), Point: number()}
	c.Answer = value(d.below(3))
	switch d.below(9) {
	case 0:
		c.Begin = number()
	case 1:
		c.End = number()
	case 2:
		c.Op = api.Op(number())
	case 3:
		c.End = none
	case 4:
		c.Thread = number()
	case 5:
		c.Answer.Kind = api.AnswerKind(number())
	}
	return c
}

// P9: a machine that no call of the face made.
func TestZeroMachine(t *testing.T) {
	m, _ := locks.New(api.Locks{})
	if m != nil || m.Move(acquire(0)) || m.Busy(0) || m.Moves() != 0 || !sameRun(m.Run(), api.Run{}) {
		t.Error("a machine of locks that may not be does something")
	}
}
