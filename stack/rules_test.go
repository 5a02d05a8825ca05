package stack_test

import (
	"cmp"
	"maps"
	"slices"
	"testing"

	"reclaim/api"
)

// dice are the same numbers each time.
type dice uint64

func (d *dice) below(n int) int {
	*d = *d*6364136223846793005 + 1442695040888963407
	return int(uint64(*d) >> 33 % uint64(n))
}

// chanceMoves are moves of the stack's calls, of those of hazard, and others; steps come several at a
// time in some scripts, so that calls end, and one by one in others, so that they meet. Some scripts
// push more than they pop.
func chanceMoves(d *dice, c api.Config, count int) []api.Move {
	pushes, burst := 4+d.below(4), 1+d.below(3)*d.below(4)
	var moves []api.Move
	for thread := range c.Threads {
		moves = append(moves, register(thread), step(thread), step(thread))
	}
	for len(moves) < count {
		thread := d.below(c.Threads)
		if d.below(60) == 0 {
			thread = c.Threads - (c.Threads+1)*d.below(2)
		}
		switch roll := d.below(40); {
		case roll < pushes:
			moves = append(moves, push(thread, d.below(9)))
		case roll < 11:
			moves = append(moves, pop(thread))
		case roll == 11:
			moves = append(moves, register(thread))
		case roll == 12:
			moves = append(moves, post(thread, d.below(9)))
		case roll == 13:
			moves = append(moves, read(thread, d.below(c.Hazards+2)-1))
		case roll == 14:
			moves = append(moves, clearing(thread, d.below(c.Hazards+2)-1))
		case roll == 15 && d.below(2) == 0:
			moves = append(moves, scan(thread))
		case roll == 16 && d.below(3) == 0:
			moves = append(moves, unregister(thread))
		default:
			moves = append(moves, slices.Repeat([]api.Move{step(thread)}, 1+d.below(burst))...)
		}
	}
	return moves[:count]
}

// eachChance goes through scripts over stacks of many sizes.
func eachChance(count int, do func(c api.Config, moves []api.Move)) {
	d := dice(11)
	for range count {
		c := configOf(1+d.below(4), 1+d.below(4), 1+d.below(4), d.below(3), 1+d.below(12))
		c.Buckets, c.Hazards = 1+d.below(3), 3+d.below(2)
		do(c, chanceMoves(&d, c, d.below(900)))
	}
}

// watch holds a yard against P6.5 to P6.8 behind every move.
type watch struct {
	*yard
	run    api.Run     // as it was behind the move ahead
	still  map[int]int // of the slots whose value and link are not to be written, the push that put them in
	popped map[int]int // of the pops that have taken a slot out, the value that it had then; by calls' numbers
	passed map[int]int // of each thread, how many others' swaps of Top succeeded since it loaded Top
	met    map[string]int
}

func watchOf(t *testing.T, c api.Config, met map[string]int) *watch {
	y := yardOf(t, c)
	return &watch{yard: y, run: y.m.Run(), still: map[int]int{}, popped: map[int]int{}, passed: map[int]int{}, met: met}
}

// move makes a move, and asks for all promises.
func (w *watch) move(t *testing.T, mv api.Move) {
	t.Helper()
	ahead := w.run
	w.m.Move(mv)
	w.run = w.m.Run()
	made := w.run.Trace[len(ahead.Trace):]
	w.wantStill(t, made, w.run.Shifts[len(ahead.Shifts):])
	w.wantRoom(t, made)
	w.notePopped(t, made)
	w.wantOrder(t)
	w.wantNoneLost(t)
	w.wantQuick(t, mv.Thread)
}

// wantStill is P6.7.
func (w *watch) wantStill(t *testing.T, made []api.Access, shifts []api.Shift) {
	t.Helper()
	for _, a := range made {
		if a.Kind == api.AccessLoad {
			continue
		}
		for slot, call := range w.still {
			if a.Addr == w.addr(api.RegionValue, slot, 0) || a.Addr == w.addr(api.RegionLink, slot, 0) {
				t.Fatalf("%+v, of the slot that call %d has put in", a, call)
			}
		}
	}
	for _, s := range shifts {
		number := w.callOf(s.Thread)
		switch {
		case s.To == api.StateLinked && w.run.Calls[number].Op == api.OpPush:
			w.still[s.Slot] = number
		case s.From == api.StateRetired:
			delete(w.still, s.Slot)
		}
		if s.From == api.StateCached && w.run.Calls[number].Op == api.OpPush {
			w.met["a push out of the cache"]++
		}
	}
}

// callOf is the number of a thread's last call.
func (w *watch) callOf(thread int) int {
	for number, call := range slices.Backward(w.run.Calls) {
		if call.Thread == thread {
			return number
		}
	}
	return -1
}

// wantRoom is P6.8 of swaps: one fails only if another thread's has succeeded since the call's load.
func (w *watch) wantRoom(t *testing.T, made []api.Access) {
	t.Helper()
	for _, a := range made {
		call := w.run.Calls[w.callOf(a.Thread)]
		switch {
		case a.Addr != 2:
		case a.Kind == api.AccessLoad:
			w.noteLoad(a, call)
			w.passed[a.Thread] = 0
		case a.Kind != api.AccessSwap:
			t.Fatalf("%+v", a)
		case a.Saw == a.Old:
			for thread := range w.c.Threads {
				if thread != a.Thread {
					w.passed[thread]++
				}
			}
		case w.passed[a.Thread] == 0:
			t.Fatalf("%+v fails, and nobody has passed", a)
		case call.Op == api.OpPush:
			w.met["a push that is overtaken"]++
		default:
			w.met["a pop that is overtaken"]++
		}
	}
}

// noteLoad notes what a load of Top has met.
func (w *watch) noteLoad(a api.Access, call api.Call) {
	hazard := w.run.Words[w.Addr(a.Thread, 0)]
	stored := slices.ContainsFunc(w.run.Trace, func(b api.Access) bool {
		return b.Move > call.Begin && b.Thread == a.Thread && b.Kind == api.AccessStore && b.Addr == w.Addr(a.Thread, 0)
	})
	switch {
	case call.Op != api.OpPop:
	case !stored && a.Saw == 0:
		w.met["a pop of an empty stack"]++
	case stored && a.Saw == 0:
		w.met["a pop of a stack that goes"]++
	case stored && a.Saw != hazard:
		w.met["a pop of a stack that changes"]++
	}
}

// notePopped notes what a pop takes out, at its point.
func (w *watch) notePopped(t *testing.T, made []api.Access) {
	t.Helper()
	for _, a := range made {
		number := w.callOf(a.Thread)
		call := w.run.Calls[number]
		if a.Kind != api.AccessSwap || a.Addr != 2 || a.Saw != a.Old {
			continue
		}
		if call.Point != a.Move {
			t.Fatalf("%+v, but the point of %+v is another", a, call)
		}
		if call.Op == api.OpPop {
			w.popped[number] = int(w.run.Words[w.addr(api.RegionValue, int(a.Old)-1, 0)])
		}
	}
}

// wantOrder is P6.5, and that each point lies within its call's time.
func (w *watch) wantOrder(t *testing.T) {
	t.Helper()
	var numbers []int
	for number, c := range w.run.Calls {
		ofStack := c.Op == api.OpPush || c.Op == api.OpPop
		switch {
		case !ofStack, c.Point < 0 && c.End < 0:
		case c.Point <= c.Begin, c.End >= 0 && c.Point > c.End:
			t.Fatalf("%+v", c)
		case c.Answer != full:
			numbers = append(numbers, number)
		}
	}
	slices.SortFunc(numbers, func(a, b int) int { return cmp.Compare(w.run.Calls[a].Point, w.run.Calls[b].Point) })
	var pile []int // the top's last
	for _, number := range numbers {
		c := w.run.Calls[number]
		_, took := w.popped[number]
		switch {
		case c.Op == api.OpPush && (c.Answer == done || c.End < 0):
			pile = append(pile, c.Arg)
			continue
		case c.Op == api.OpPush:
			t.Fatalf("%+v", c)
		case took != (len(pile) > 0):
			t.Fatalf("%+v takes: %v, but the stack is %v", c, took, pile)
		}
		want := empty
		if took {
			want = value(pile[len(pile)-1])
			pile = pile[:len(pile)-1]
		}
		if c.End >= 0 && c.Answer != want {
			t.Fatalf("%+v, not %+v", c, want)
		}
	}
	slices.Reverse(pile)
	if left := valuesOf(w.c, w.run.Words); !slices.Equal(left, pile) {
		t.Fatalf("the words have %v, the calls leave %v", left, pile)
	}
}

// wantNoneLost is P6.6.
func (w *watch) wantNoneLost(t *testing.T) {
	t.Helper()
	var pushed []int
	for _, c := range w.run.Calls {
		if c.Op == api.OpPush && c.Point >= 0 && c.Answer != full {
			pushed = append(pushed, c.Arg)
		}
	}
	there := slices.Concat(slices.Collect(maps.Values(w.popped)), valuesOf(w.c, w.run.Words))
	slices.Sort(pushed)
	slices.Sort(there)
	if !slices.Equal(pushed, there) {
		t.Fatalf("pushed were %v, there are %v", pushed, there)
	}
}

// wantQuick is P6.8 of a push that was alone, and G4 of one that found no slot.
func (w *watch) wantQuick(t *testing.T, thread int) {
	t.Helper()
	call, known := w.m.Call(thread)
	if !known || call.Op != api.OpPush || call.End != w.m.Moves()-1 {
		return
	}
	if call.Answer == full {
		w.met["a push that finds no slot"]++
		if free := w.a.Count(api.StateFree); free > 0 || len(w.a.Cached(thread)) > 0 {
			t.Fatalf("%+v, but %d slots are free, %v cached", call, free, w.a.Cached(thread))
		}
		return
	}
	own, others := 0, 0
	for _, a := range slices.Backward(w.run.Trace) {
		switch {
		case a.Move <= call.Begin:
		case a.Thread == thread:
			own++
		default:
			others++
		}
	}
	if others == 0 {
		w.met["a push that is alone"]++
	}
	if others == 0 && own > 7 {
		t.Fatalf("%+v has taken %d steps", call, own)
	}
}

// P6.5 to P6.8: behind every move of chance scripts, which meet all that there is to meet.
func TestRules(t *testing.T) {
	met := map[string]int{}
	eachChance(250, func(c api.Config, moves []api.Move) {
		w := watchOf(t, c, met)
		for _, mv := range moves {
			w.move(t, mv)
		}
	})
	for _, what := range []string{
		"a push that is overtaken", "a pop that is overtaken", "a push out of the cache", "a push that finds no slot",
		"a push that is alone", "a pop of an empty stack", "a pop of a stack that goes", "a pop of a stack that changes",
	} {
		if met[what] == 0 {
			t.Errorf("no script comes to %s", what)
		}
	}
}

// P6.5 to P6.8: likewise of three calls of two threads, over stacks of up to two values: the first
// one is cut at each of its steps, the second one is made whole there, and the third one is cut at
// each of its steps by the rest of the first.
func TestRulesOfCutCalls(t *testing.T) {
	calls := []func(thread int) api.Move{func(thread int) api.Move { return push(thread, 7+thread) }, pop}
	for held := range 3 {
		for kind := range 8 {
			for cut := range 20 {
				for other := range 20 {
					w := watchOf(t, configOf(2, 2, 1, 0, 3), map[string]int{})
					w.calls(t, register(0), register(1))
					for i := range held {
						w.whole(t, push(0, i))
					}
					w.move(t, calls[kind&1](0))
					w.times(t, 0, cut)
					w.whole(t, calls[kind>>1&1](1))
					w.move(t, calls[kind>>2](1))
					w.times(t, 1, other)
					w.times(t, 0, 40)
					w.times(t, 1, 40)
				}
			}
		}
	}
}

// whole makes a call to its end.
func (w *watch) whole(t *testing.T, mv api.Move) {
	t.Helper()
	w.move(t, mv)
	w.times(t, mv.Thread, 40)
}

// times lets a thread make so many steps, or fewer if its call ends.
func (w *watch) times(t *testing.T, thread, count int) {
	t.Helper()
	for range count {
		if !w.m.Busy(thread) {
			return
		}
		w.move(t, step(thread))
	}
}
