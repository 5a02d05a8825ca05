package mcas_test

import (
	"slices"
	"sync"
	"testing"

	"reclaim/api"
	"reclaim/mcas"
)

// within is a list in the midst of a greater one, with edges around it.
func within[T any](values []T, edge T) []T {
	return append(append([]T{edge}, values...), edge, edge, edge, edge)
}

// inner is the list within, with all behind it as its spare room.
func inner[T any](around []T) []T { return around[1 : len(around)-4] }

// around is a run each of whose lists stands within a greater one.
func around(r api.Run) api.Run {
	return api.Run{
		Calls:  within(r.Calls, api.Call{Op: api.OpMulti, Answer: value(9)}),
		Trace:  within(r.Trace, swap(0, 0, 9, 9)),
		Shifts: within(r.Shifts, api.Shift{Slot: 9}),
		Words:  within(r.Words, 99),
	}
}

func innerRun(r api.Run) api.Run {
	return api.Run{Calls: inner(r.Calls), Trace: inner(r.Trace), Shifts: inner(r.Shifts), Words: inner(r.Words)}
}

// aroundMulti is a memory each of whose lists stands within a greater one.
func aroundMulti(c api.Multi) api.Multi {
	c = cloneMulti(c)
	c.Cells = within(c.Cells, 99)
	for i, entries := range c.Swaps {
		c.Swaps[i] = within(entries, api.MultiEntry{Cell: 9})
	}
	c.Swaps = within(c.Swaps, swapOf([3]int{8, 8, 8}))
	return c
}

func innerMulti(c api.Multi) api.Multi {
	c.Cells = inner(c.Cells)
	c.Swaps = slices.Clone(inner(c.Swaps))
	for i, entries := range c.Swaps {
		c.Swaps[i] = inner(entries)
	}
	return c
}

func sameMulti(a, b api.Multi) bool {
	same := func(a, b []api.MultiEntry) bool { return slices.Equal(a, b) }
	return a.Threads == b.Threads && a.Uses == b.Uses && slices.Equal(a.Cells, b.Cells) && slices.EqualFunc(a.Swaps, b.Swaps, same)
}

// smear makes all of a list another, its spare room too.
func smear[T any](list []T, with T) {
	all := list[:cap(list)]
	for i := range all {
		all[i] = with
	}
}

func smearRun(r api.Run) {
	smear(r.Calls, api.Call{Op: api.OpMultiRead, Arg: 8, Answer: yes})
	smear(r.Trace, swap(0, 1, 8, 8))
	smear(r.Shifts, api.Shift{Slot: 8})
	smear(r.Words, 83)
}

func smearMulti(c api.Multi) {
	smear(c.Cells, 1)
	for _, entries := range c.Swaps {
		smear(entries, api.MultiEntry{Cell: 0, Old: 1, New: 77})
	}
	smear(c.Swaps, nil)
}

// mixed is the run with its calls and its accesses the other way round, so that nothing rises.
func mixed(r api.Run) api.Run {
	slices.Reverse(r.Calls)
	slices.Reverse(r.Trace)
	return r
}

// P6: what is handed in stays as it was, its spare room too.
func TestChangesNothing(t *testing.T) {
	eachChance(60, func(c api.Multi, moves []api.Move) {
		memory, script := aroundMulti(c), within(moves, read(0, 0))
		keptMemory, kept := cloneMulti(memory), slices.Clone(script)
		handed := innerMulti(memory)
		mcas.Check(handed)
		mcas.Words(handed)
		m, _ := mcas.New(handed)
		for _, mv := range inner(script) {
			m.Move(mv)
		}
		r, _ := mcas.Play(handed, inner(script))
		if !slices.Equal(script, kept) {
			t.Fatal("Play has changed the moves")
		}
		for _, around := range []api.Run{around(r), around(mixed(r))} {
			same := cloneRun(around)
			mcas.Cells(handed, innerRun(around).Words)
			mcas.Holds(handed, innerRun(around))
			if !sameRun(around, same) {
				t.Fatal("Cells or Holds has changed the run")
			}
		}
		if !sameMulti(memory, keptMemory) {
			t.Fatal("the memory has been changed")
		}
	})
}

// P6: what is done to one answer, or to what was handed in, is seen in no other; a machine keeps nothing of what
// it was made with.
func TestSharesNothing(t *testing.T) {
	eachChance(60, func(c api.Multi, moves []api.Move) {
		own := cloneMulti(c)
		w := rowOf(t, own)
		smearMulti(own)
		script := slices.Clone(moves)
		first, _ := mcas.Play(c, script)
		played := cloneRun(first)
		for i, mv := range moves {
			if i == len(moves)/2 {
				smearRun(w.m.Run())
			}
			w.m.Move(mv)
		}
		smear(script, read(0, 0))
		wantRun(t, first, played)
		second, _ := mcas.Play(c, moves)
		smearRun(first)
		wantRun(t, second, played)
		wantRun(t, w.m.Run(), played)

		cells, _ := mcas.Cells(c, second.Words)
		other, _ := mcas.Cells(c, second.Words)
		kept, keptMemory := slices.Clone(cells), cloneMulti(c)
		smear(cells, 66)
		wantRun(t, second, played)
		smearRun(second)
		if !slices.Equal(other, kept) || !sameMulti(c, keptMemory) {
			t.Fatal("two answers of Cells share memory, or one does with what was handed in")
		}
	})
}

// P6: Words tells new words each time; a machine has its own.
func TestWordsShareNothing(t *testing.T) {
	c := example()
	w := rowOf(t, c)
	first, _ := mcas.Words(c)
	second, _ := mcas.Words(c)
	smear(first, 9)
	w.wantWords(t, 20, 24, 28, 0, 0, 0, 0, 0, 0, 0, 0, 0, 0)
	if !slices.Equal(second, w.m.Run().Words) {
		t.Errorf("Words = %d", second)
	}
	w.calls(t, yes, multi(0, 0))
	if third, _ := mcas.Words(c); !slices.Equal(third, second) {
		t.Errorf("Words = %d", third)
	}
}

// P6: no two lists of one answer share memory.
func TestListsOfOneAnswerShareNothing(t *testing.T) {
	eachChance(20, func(c api.Multi, moves []api.Move) {
		want := playOf(t, c, moves...)
		r := playOf(t, c, moves...)
		smear(r.Calls, api.Call{})
		smear(r.Trace, load(8, 8, 8))
		if len(r.Shifts) != 0 || !slices.Equal(r.Words, want.Words) {
			t.Fatal("lists share memory")
		}
	})
}

// P6: what is answered hangs on the arguments alone, also where many ask at the same time.
func TestHangsOnItsArgumentsAlone(t *testing.T) {
	d := dice(3)
	c := chanceMulti(&d)
	moves := chanceMoves(&d, c, 900)
	want := playOf(t, c, moves...)
	cells, _ := mcas.Cells(c, want.Words)
	var all sync.WaitGroup
	for range 8 {
		all.Go(func() {
			for range 5 {
				r, _ := mcas.Play(c, moves)
				so, _ := mcas.Holds(c, r)
				other, _ := mcas.Cells(c, r.Words)
				if !sameRun(r, want) || !so || !slices.Equal(other, cells) {
					t.Error("another answer")
				}
			}
		})
	}
	all.Wait()
}

// P6: what one machine's calls do is seen by no other of the same memory.
func TestMachinesShareNothing(t *testing.T) {
	c := example()
	one, other := rowOf(t, c), rowOf(t, c)
	one.calls(t, yes, multi(0, 0))
	one.calls(t, no, multi(0, 0))
	one.refuses(t, multi(0, 0))
	other.calls(t, yes, multi(0, 0))
	other.make(t, multi(1, 0))
	other.steps(t, 1, 2)
	other.goes(t, store(1, 4, recorded(1, 2, 0)))
}

// P7: nil and empty lists are the same.
func TestNilAndEmpty(t *testing.T) {
	c := changed(least(), func(c *api.Multi) { c.Swaps = nil })
	empty := changed(c, func(c *api.Multi) { c.Swaps = [][]api.MultiEntry{} })
	none, e := mcas.Play(c, nil)
	some, f := mcas.Play(empty, []api.Move{})
	if !sameRun(none, some) || e != api.OK || f != api.OK {
		t.Errorf("Play = %+v, %d and %+v, %d", none, e, some, f)
	}
	for _, words := range [][]uint64{nil, {}} {
		for _, r := range []api.Run{{Words: words}, {Calls: []api.Call{}, Trace: []api.Access{}, Shifts: []api.Shift{}, Words: words}} {
			if so, e := mcas.Holds(c, r); so || e != api.ErrMultiRun {
				t.Errorf("Holds = %v, %d", so, e)
			}
		}
	}
	for _, r := range []api.Run{{Words: none.Words}, {Calls: []api.Call{}, Trace: []api.Access{}, Shifts: []api.Shift{}, Words: none.Words}} {
		if so, e := mcas.Holds(empty, r); !so || e != api.OK {
			t.Errorf("Holds = %v, %d", so, e)
		}
	}
}

// P5: whatever is given, the calls end and none panics; Cells and Holds are as their words say.
func TestWildArguments(t *testing.T) {
	d := dice(123)
	number := func() int {
		wild := []int{0, 0, 0, 1, 1, -1, 2, 3, 4, 5, 16, 32, 33, 64, 130, 131, -1 << 63, 1<<63 - 1, 1 << 20, 1 << 32}
		return wild[d.below(len(wild))]
	}
	met := map[string]int{}
	for range 20000 {
		c := wildMulti(&d, number)
		var moves []api.Move
		r := api.Run{}
		for range d.below(12) {
			moves = append(moves, api.Move{Thread: number(), Op: api.Op(number()), Arg: number(), Data: number()})
		}
		for range d.below(5) {
			r.Calls = append(r.Calls, wildCall(&d, number))
		}
		for range d.below(12) {
			r.Trace = append(r.Trace, wildAccess(&d, number))
		}
		for range d.below(12) {
			r.Words = append(r.Words, uint64(number()))
		}
		mcas.New(c)
		mcas.Play(c, moves)
		mcas.Cells(c, r.Words)
		mcas.Holds(c, r)
		if mcas.Check(c) != api.OK {
			met["no memory"]++
			continue
		}
		if d.below(8) > 0 {
			r.Words, _ = mcas.Words(c)
			if d.below(3) == 0 {
				spoil(&d, c, r.Words)
			}
		}
		wantCellsOf(t, c, r.Words)
		met[wantJudged(t, c, r)]++
	}
	wantMet(t, met, 100, "true", "false", "none", "no memory")
}

// wildMulti is a memory that may be half of the time.
func wildMulti(d *dice, number func() int) api.Multi {
	if d.below(2) == 0 {
		return chanceMulti(d)
	}
	c := api.Multi{Threads: number(), Uses: number()}
	for range d.below(4) {
		c.Cells = append(c.Cells, number())
	}
	for range d.below(3) {
		var entries []api.MultiEntry
		for range d.below(6) {
			entries = append(entries, api.MultiEntry{Cell: number(), Old: number(), New: number()})
		}
		c.Swaps = append(c.Swaps, entries)
	}
	return c
}

func wildCall(d *dice, number func() int) api.Call {
	c := api.Call{Op: api.OpMulti + api.Op(d.below(2)), Begin: -1, End: 3, Point: d.below(4)}
	c.Answer = api.Answer{Kind: api.AnswerKind(2 + d.below(5)), Value: number()}
	switch d.below(12) {
	case 0:
		c.Begin = number()
	case 1:
		c.End = number()
	case 2:
		c.Op = api.Op(number())
	case 3:
		c.End = -1
	case 4:
		c.Thread = number()
	case 5:
		c.Arg = number()
	case 6:
		c.Point = number()
	case 7:
		c.End, c.Point = -1, -1
	}
	return c
}

func wildAccess(d *dice, number func() int) api.Access {
	a := api.Access{Move: d.below(9), Kind: api.AccessSwap, Addr: d.below(20), New: 1}
	switch d.below(6) {
	case 0:
		a.Move = number()
	case 1:
		a.Addr = number()
	case 2:
		a.Saw = uint64(number())
	case 3:
		a.Kind = api.AccessKind(number())
	}
	return a
}
