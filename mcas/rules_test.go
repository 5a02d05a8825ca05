package mcas_test

import (
	"slices"
	"testing"

	"reclaim/api"
	"reclaim/mcas"
)

// watch holds a machine against P25.9 to P25.12 behind every move.
type watch struct {
	*row
	moves []api.Move
	run   api.Run // as it was behind the last move
	named map[int]bool
	may   [][]int // of each cell, what it may hold
	met   map[string]int
}

func watchOf(t *testing.T, c api.Multi, met map[string]int) *watch {
	w := rowOf(t, c)
	may := make([][]int, len(c.Cells))
	for cell, v := range c.Cells {
		may[cell] = append(may[cell], v)
	}
	for _, swap := range c.Swaps {
		for _, e := range swap {
			may[e.Cell] = append(may[e.Cell], e.New)
		}
	}
	return &watch{row: w, run: w.m.Run(), named: map[int]bool{}, may: may, met: met}
}

// move makes a move, and asks for the promises.
func (w *watch) move(t *testing.T, mv api.Move) {
	t.Helper()
	w.moveOn(t, mv)
	w.wantHolds(t)
}

// moveOn makes a move, and asks for all but P25.9.
func (w *watch) moveOn(t *testing.T, mv api.Move) {
	t.Helper()
	ahead := w.run
	w.moves = append(w.moves, mv)
	w.m.Move(mv)
	w.run = w.m.Run()
	made := w.run.Trace[len(ahead.Trace):]
	if len(made) > 1 || len(w.run.Shifts) > 0 {
		t.Fatalf("move %d makes the accesses %+v and has shifts %+v", w.now(), made, w.run.Shifts)
	}
	for _, a := range made {
		w.wantNamed(t, a)
		w.wantDecidedOnce(t, ahead.Words)
		w.wantHeldRightly(t)
		w.note(a)
	}
	w.wantKnownValues(t)
}

// wantNamed is P25.11's third part: what concerns a descriptor comes behind the store of its number.
func (w *watch) wantNamed(t *testing.T, a api.Access) {
	t.Helper()
	base := len(w.c.Cells) + w.c.Threads
	var d int
	switch {
	case a.Addr >= base && (a.Addr-base)%2 == 1 && a.Kind == api.AccessStore:
		d = (a.Addr - base) / 2
		if w.named[d] || d/w.c.Uses != a.Thread {
			t.Fatalf("%+v", a)
		}
		w.named[d] = true
	case a.Addr >= base:
		d = (a.Addr - base) / 2
	case a.Addr >= len(w.c.Cells) && a.Kind == api.AccessStore:
		d = int(a.New) % 4096 / 4
	case a.Kind == api.AccessSwap && a.New%4 == 2:
		d = int(a.New / 4)
	default:
		return
	}
	if !w.named[d] {
		t.Fatalf("%+v, though descriptor %d has no number", a, d)
	}
}

// wantDecidedOnce is P25.11's first part.
func (w *watch) wantDecidedOnce(t *testing.T, ahead []uint64) {
	t.Helper()
	for d := range w.c.Threads * w.c.Uses {
		old, now := ahead[statusAt(w.c, d)], w.run.Words[statusAt(w.c, d)]
		if old != now && (old != 0 || now != 1 && now != 2) {
			t.Fatalf("behind move %d the status of descriptor %d is %d, not %d", w.now(), d, now, old)
		}
	}
}

// wantHeldRightly is P25.11's second part.
func (w *watch) wantHeldRightly(t *testing.T) {
	t.Helper()
	for cell, stands := range w.run.Words[:len(w.c.Cells)] {
		if stands%4 != 2 {
			continue
		}
		d := int(stands / 4)
		swap := w.c.Swaps[w.run.Words[numberAt(w.c, d)]]
		if !w.named[d] || !slices.ContainsFunc(swap, func(e api.MultiEntry) bool { return e.Cell == cell }) {
			t.Fatalf("behind move %d descriptor %d holds cell %d", w.now(), d, cell)
		}
		if w.run.Words[statusAt(w.c, d)] != 0 {
			w.met["held behind the decision"]++
		}
	}
}

// wantKnownValues is P25.12.
func (w *watch) wantKnownValues(t *testing.T) {
	t.Helper()
	got, e := mcas.Cells(w.c, w.run.Words)
	if e != api.OK || len(got) != len(w.c.Cells) {
		t.Fatalf("behind move %d: Cells = %v, %d", w.now(), got, e)
	}
	for cell, v := range got {
		if !slices.Contains(w.may[cell], v) {
			t.Fatalf("behind move %d cell %d holds %d", w.now(), cell, v)
		}
	}
}

// note counts what is rare.
func (w *watch) note(a api.Access) {
	c := w.last(a.Thread)
	swapped := a.Kind == api.AccessSwap && a.Saw == a.Old
	switch {
	case c.End == w.now() && c.Answer == yes && c.Point < c.End-8:
		w.met["yes by somebody else"]++
	case c.End == w.now() && c.Answer == no && c.Point < c.End-30:
		w.met["no by what was seen long ahead"]++
	}
	if swapped && a.Old%4 == 1 && a.New%4 == 0 && a.Addr < len(w.c.Cells) {
		w.met["a mark taken back"]++
	}
}

// wantSolo is P25.10's first part: a thread that goes on alone from here comes to its end.
func (w *watch) wantSolo(t *testing.T) {
	t.Helper()
	for thread := range w.c.Threads {
		if !w.m.Busy(thread) {
			continue
		}
		other := rowOf(t, w.c)
		for _, mv := range w.moves {
			other.m.Move(mv)
		}
		other.finish(t, thread)
		other.wantHolds(t)
		w.met["alone"]++
	}
}

// end lets all threads make steps, in turn, till none is busy.
func (w *watch) end(t *testing.T) {
	t.Helper()
	for busy, count := true, 0; busy; count++ {
		if count > longest {
			t.Fatal("the calls don't come to an end")
		}
		busy = false
		for thread := range w.c.Threads {
			if w.m.Busy(thread) {
				busy = true
				w.moveOn(t, step(thread))
			}
		}
	}
	w.wantHolds(t)
	w.wantAtRest(t)
}

// wantAtRest asks what is so where no call is on its way: cells have values, and P25.10's second part.
func (w *watch) wantAtRest(t *testing.T) {
	t.Helper()
	for _, stands := range w.run.Words[:len(w.c.Cells)] {
		if stands%4 != 0 {
			t.Fatalf("behind move %d all calls have ended, and the words are %d", w.now(), w.run.Words)
		}
	}
	for which, swap := range w.c.Swaps {
		thread := which % w.c.Threads
		if !w.m.Move(multi(thread, which)) {
			continue
		}
		w.finish(t, thread)
		c := w.last(thread)
		if c.Answer == yes && c.End-c.Begin != 4+8*len(swap) {
			t.Fatalf("%+v of %d entries, alone", c, len(swap))
		}
		w.met["at rest"]++
	}
	w.wantHolds(t)
}

// P25.9, P25.11 and P25.12 behind every move of many scripts, P25.10 at some, and what is so at rest.
func TestWhatRunsKeep(t *testing.T) {
	met, d := map[string]int{}, dice(3)
	eachChance(160, func(c api.Multi, moves []api.Move) {
		w := watchOf(t, c, met)
		for _, mv := range moves {
			w.move(t, mv)
			if d.below(150) == 0 {
				w.wantSolo(t)
			}
		}
		w.wantSolo(t)
		w.end(t)
	})
	wantMet(t, met, 20, "held behind the decision", "yes by somebody else", "no by what was seen long ahead", "a mark taken back",
		"alone", "at rest")
}

// meeting is a memory in which threads 0 and 1 make one call each, and what they are.
type meeting struct {
	c     api.Multi
	calls []api.Move
}

func meetings() []meeting {
	of := func(cells []int, calls []api.Move, swaps ...[]api.MultiEntry) meeting {
		return meeting{api.Multi{Threads: len(calls), Cells: cells, Swaps: swaps, Uses: 3}, calls}
	}
	both := []api.Move{multi(0, 0), multi(1, 1)}
	return []meeting{
		of([]int{1, 1}, both, swapOf([3]int{0, 1, 2}, [3]int{1, 1, 2}), swapOf([3]int{0, 1, 3}, [3]int{1, 1, 3})),
		of([]int{1, 1}, both, swapOf([3]int{0, 1, 2}, [3]int{1, 1, 2}), swapOf([3]int{0, 2, 1}, [3]int{1, 2, 1})),
		of([]int{1, 1}, both, swapOf([3]int{0, 1, 2}, [3]int{1, 3, 2}), swapOf([3]int{0, 1, 3}, [3]int{1, 1, 3})),
		of([]int{1, 1, 1}, both, swapOf([3]int{0, 1, 2}, [3]int{1, 1, 2}), swapOf([3]int{1, 1, 1}, [3]int{2, 1, 3})),
		of([]int{1, 1, 1}, both, swapOf([3]int{1, 1, 2}, [3]int{2, 1, 2}), swapOf([3]int{0, 1, 1}, [3]int{1, 1, 2}, [3]int{2, 1, 2})),
		of([]int{1}, both, swapOf([3]int{0, 1, 1}), swapOf([3]int{0, 1, 2})),
		of([]int{1, 1}, []api.Move{multi(0, 0), read(1, 0)}, swapOf([3]int{0, 1, 2}, [3]int{1, 1, 2})),
		of([]int{1, 1}, []api.Move{multi(0, 0), read(1, 1)}, swapOf([3]int{0, 1, 2}, [3]int{1, 1, 2})),
		of([]int{1, 1}, []api.Move{multi(0, 0), read(1, 1)}, swapOf([3]int{0, 2, 2}, [3]int{1, 1, 2})),
	}
}

// P25.9 to P25.12 where two calls are cut: thread 0 makes some steps of its calls, then thread 1 some of its own,
// then thread 0 again, and then both in turn.
func TestMeetingsOfTwo(t *testing.T) {
	met := map[string]int{}
	for _, m := range meetings() {
		for first := range 20 {
			for second := range 24 {
				for _, third := range []int{0, 1, 2, 4, 7} {
					w := watchOf(t, m.c, met)
					w.moveOn(t, m.calls[0])
					w.moveOn(t, m.calls[1])
					for i, count := range []int{first, second, third} {
						for range count {
							w.moveOn(t, step(i%2))
						}
					}
					w.wantHolds(t)
					if third == 4 {
						w.wantSolo(t)
					}
					w.end(t)
				}
			}
		}
	}
	wantMet(t, met, 20, "held behind the decision", "yes by somebody else", "a mark taken back", "alone", "at rest")
}

// P25.9 to P25.12 where three calls are cut in turn, of which one undoes what another one does.
func TestMeetingsOfThree(t *testing.T) {
	met := map[string]int{}
	c := api.Multi{Threads: 3, Uses: 4, Cells: []int{1, 1}, Swaps: [][]api.MultiEntry{
		swapOf([3]int{0, 1, 2}, [3]int{1, 1, 2}), swapOf([3]int{0, 2, 1}, [3]int{1, 2, 1}), swapOf([3]int{1, 1, 3}),
	}}
	d := dice(8)
	for range 700 {
		w := watchOf(t, c, met)
		for thread := range 3 {
			w.moveOn(t, multi(thread, thread))
		}
		for range 3 + d.below(9) {
			thread := d.below(3)
			if !w.m.Busy(thread) {
				w.moveOn(t, multi(thread, d.below(3)))
			}
			for range d.below(26) {
				w.moveOn(t, step(thread))
			}
			w.wantHolds(t)
		}
		w.wantSolo(t)
		w.end(t)
	}
	wantMet(t, met, 20, "held behind the decision", "yes by somebody else", "no by what was seen long ahead")
}

// P25.9 of scripts as long as may be, with few threads and with the most.
func TestWhatLongRunsKeep(t *testing.T) {
	d := dice(9)
	for _, threads := range []int{1, 2, 3, 8, api.MaxThreads} {
		for _, cells := range []int{1, 3, api.MaxMultiCells} {
			c := chanceMulti(&d)
			c.Threads, c.Uses, c.Cells = threads, api.MaxMultiUses, slices.Repeat([]int{4}, cells)
			for i := range c.Swaps {
				c.Swaps[i] = chanceSwap(&d, cells, []int{4, 5})
			}
			r := playOf(t, c, chanceMoves(&d, c, api.MaxMoves)...)
			if so, e := mcas.Holds(c, r); !so || e != api.OK {
				t.Fatalf("%+v: Holds = %v, %d", c, so, e)
			}
		}
	}
}

// P25.10's second part: a swap of k entries that answers yes, at all widths; one entry after the other has been put.
func TestStepsAlone(t *testing.T) {
	for width := 1; width <= api.MaxMultiWidth; width++ {
		var swap []api.MultiEntry
		for cell := range width {
			swap = append(swap, api.MultiEntry{Cell: 3*cell + 1, Old: cell, New: cell})
		}
		c := api.Multi{Threads: 3, Cells: []int{9, 0, 9, 9, 1, 9, 9, 2, 9, 9, 3, 9}, Swaps: [][]api.MultiEntry{swap}, Uses: api.MaxMultiUses}
		w := rowOf(t, c)
		for use := range api.MaxMultiUses {
			for thread := range c.Threads {
				w.make(t, multi(thread, 0))
				w.steps(t, thread, 4+8*width)
				w.ended(t, thread, yes, w.now()-width-1)
				if got, want := int(w.m.Run().Words[numberAt(c, thread*c.Uses+use)-1]), 1; got != want {
					t.Fatalf("thread %d, call %d: the status is %d", thread, use, got)
				}
			}
		}
		w.wantHolds(t)
	}
}
