package epoch_test

import (
	"cmp"
	"slices"
	"testing"

	"reclaim/api"
	"reclaim/epoch"
)

// watch holds a machine against P20.5 behind every move. What it knows of slots and bags it knows by what is
// recorded.
type watch struct {
	*yard
	run     api.Run       // as it was behind the last move
	states  []api.State   // of each slot
	holders []int         // of each slot; -1: none
	retired map[int]int   // of the slots in a bag, the epoch that was read then
	present map[int][]int // of the slots that are unlinked, the threads that were pinned then, by their pins' numbers
	met     map[string]int
}

func watchOf(t *testing.T, c api.Config, met map[string]int) *watch {
	y := yardOf(t, c)
	return &watch{
		yard: y, run: y.m.Run(), states: make([]api.State, c.Slots), holders: slices.Repeat([]int{-1}, c.Slots),
		retired: map[int]int{}, present: map[int][]int{}, met: met,
	}
}

// move makes a move, and asks for all promises.
func (w *watch) move(t *testing.T, mv api.Move) {
	t.Helper()
	ahead := w.run
	w.m.Move(mv)
	w.run = w.m.Run()
	made, shifts := w.run.Trace[len(ahead.Trace):], w.run.Shifts[len(ahead.Shifts):]
	if len(made) > 1 {
		t.Fatalf("move %d makes the accesses %+v", w.now(), made)
	}
	// A slot comes out of a cache ahead of the access of that step; all other shifts are behind it.
	if len(shifts) > 0 && shifts[0].From == api.StateCached {
		w.take(t, shifts[0], nil)
		shifts = shifts[1:]
	}
	for _, a := range made {
		w.wantNotGone(t, a)
		w.note(a)
	}
	for _, s := range shifts {
		w.wantGrace(t, s, ahead.Words[epochAt(w.c)])
		w.take(t, s, made)
	}
	w.wantExplained(t)
	w.wantNear(t)
	w.wantInOneState(t)
}

// note counts what is rare.
func (w *watch) note(a api.Access) {
	if a.Kind == api.AccessSwap && a.Saw != a.Old {
		switch a.Addr {
		case freeAt:
			w.met["a swap of Free that fails"]++
		case topAt:
			w.met["a swap of Top that fails"]++
		case epochAt(w.c):
			w.met["a swap of the epoch that fails"]++
		}
	}
	call := w.callOf(a.Thread)
	if call.Op == api.OpPin && a.Kind == api.AccessLoad && w.m.Busy(a.Thread) && a.Move > call.Begin+2 {
		w.met["a pin that goes round"]++
	}
	if call.Op == api.OpDraw && a.Addr == epochAt(w.c) && a.Kind == api.AccessSwap {
		w.met["a draw that advances"]++
	}
}

// callOf is a thread's last call.
func (w *watch) callOf(thread int) api.Call {
	c, _ := w.m.Call(thread)
	return c
}

// pins are the numbers, among all calls, of the pins by which threads are pinned now.
func (w *watch) pins() []int {
	pins := slices.Repeat([]int{-1}, w.c.Threads)
	for number, c := range w.run.Calls {
		if c.End >= 0 && c.Op == api.OpPin {
			pins[c.Thread] = number
		}
		if c.End >= 0 && c.Op == api.OpUnpin {
			pins[c.Thread] = -1
		}
	}
	return slices.DeleteFunc(pins, func(number int) bool { return number < 0 })
}

// wantNotGone is the end of (3): no thread accesses a word of a slot that is free or cached, and none but the
// holder one that is owned.
func (w *watch) wantNotGone(t *testing.T, a api.Access) {
	t.Helper()
	for slot := range w.c.Slots {
		data := valueAt(w.c, slot) + w.c.Slots
		if a.Addr != valueAt(w.c, slot) && a.Addr != linkAt(w.c, slot) && a.Addr != data {
			continue
		}
		switch state := w.states[slot]; {
		case state == api.StateFree || state == api.StateCached:
			t.Fatalf("%+v, of slot %d, which is in state %d", a, slot, state)
		case state == api.StateOwned && w.holders[slot] != a.Thread:
			t.Fatalf("%+v, of slot %d, which thread %d owns", a, slot, w.holders[slot])
		case state == api.StateRetired:
			w.met["an access to a slot in a bag"]++
		}
	}
}

// wantGrace is (3) of a slot that leaves a bag: two epochs later, and nobody is pinned any more that was so
// when it was unlinked.
func (w *watch) wantGrace(t *testing.T, s api.Shift, now uint64) {
	t.Helper()
	if s.From != api.StateRetired {
		return
	}
	if int(now) < w.retired[s.Slot]+2 {
		t.Fatalf("%+v in epoch %d; it was put into the bag in epoch %d", s, now, w.retired[s.Slot])
	}
	pins := w.pins()
	for _, number := range w.present[s.Slot] {
		if slices.Contains(pins, number) {
			t.Fatalf("%+v, while the thread of call %d is still pinned", s, number)
		}
	}
	w.met["a slot given back"]++
	if s.To == api.StateCached {
		w.met["a slot given back to a cache"]++
	}
	if w.callOf(s.Thread).Op == api.OpDraw {
		w.met["a slot given back by a draw"]++
	}
	if int(now) > w.retired[s.Slot]+2 {
		w.met["a slot given back late"]++
	}
}

// take puts a shift down, and asks that it is one of those that there are.
func (w *watch) take(t *testing.T, s api.Shift, made []api.Access) {
	t.Helper()
	if w.states[s.Slot] != s.From {
		t.Fatalf("%+v of a slot in state %d", s, w.states[s.Slot])
	}
	w.states[s.Slot], w.holders[s.Slot] = s.To, s.Thread
	if s.To == api.StateFree || s.To == api.StateLinked {
		w.holders[s.Slot] = -1
	}
	switch s.To {
	case api.StateDetached:
		w.present[s.Slot] = w.pins()
	case api.StateRetired:
		w.retired[s.Slot] = int(made[0].Saw)
	}
}

// wantExplained is (1).
func (w *watch) wantExplained(t *testing.T) {
	t.Helper()
	if so, e := epoch.Holds(w.c, w.run); !so || e != api.OK {
		t.Fatalf("behind move %d: Holds = %v, %d: %+v", w.now(), so, e, w.run.Calls)
	}
	if got, want := valuesOf(w.c, w.run.Words), leftOf(w.run); !slices.Equal(got, want) {
		t.Fatalf("behind move %d the stack is %v, not %v", w.now(), got, want)
	}
}

// leftOf are the values that a run's calls leave, in the order of their points, the top's first.
func leftOf(r api.Run) []int {
	calls := slices.DeleteFunc(slices.Clone(r.Calls), func(c api.Call) bool {
		return c.Point < 0 || c.Answer == full || c.Answer == empty
	})
	slices.SortFunc(calls, func(a, b api.Call) int { return cmp.Compare(a.Point, b.Point) })
	var values []int
	for _, c := range calls {
		if c.Op == api.OpStow {
			values = slices.Insert(values, 0, c.Arg)
		} else {
			values = values[1:]
		}
	}
	return values
}

// wantNear is (2).
func (w *watch) wantNear(t *testing.T) {
	t.Helper()
	now := int(w.run.Words[epochAt(w.c)])
	pinned, _ := epoch.Pinned(w.c, w.run)
	for thread, p := range pinned {
		if p >= 0 && now != p && now != p+1 {
			t.Fatalf("behind move %d thread %d is pinned in epoch %d, and the epoch is %d", w.now(), thread, p, now)
		}
		if p >= 0 && now == p+1 {
			w.met["a thread pinned in the epoch ahead"]++
		}
	}
}

// wantInOneState asks that the free list has just the slots that are free, and the stack those that are linked.
func (w *watch) wantInOneState(t *testing.T) {
	t.Helper()
	var free []int
	for slot, state := range w.states {
		if state == api.StateFree {
			free = append(free, slot)
		}
	}
	got := freeOf(w.c, w.run.Words)
	if slices.Sort(got); !slices.Equal(got, free) {
		t.Fatalf("behind move %d the free list has %v, not %v", w.now(), got, free)
	}
	linked := 0
	for _, state := range w.states {
		if state == api.StateLinked {
			linked++
		}
	}
	if got := len(valuesOf(w.c, w.run.Words)); got != linked {
		t.Fatalf("behind move %d the stack has %d slots, and %d are linked", w.now(), got, linked)
	}
}

// bagged tells how many slots a thread's bag has (and those that are on their way out of it).
func (w *watch) bagged(thread int) int {
	count := 0
	for slot, state := range w.states {
		if state == api.StateRetired && w.holders[slot] == thread {
			count++
		}
	}
	return count
}

// settle ends all calls, and unpins all threads.
func (w *watch) settle(t *testing.T) {
	t.Helper()
	w.end(t)
	for thread := range w.c.Threads {
		w.move(t, unpin(thread))
	}
	w.end(t)
}

// end lets all threads make steps, in turn, till none is busy.
func (w *watch) end(t *testing.T) {
	t.Helper()
	for busy, count := true, 0; busy; count++ {
		if count > 20000 {
			t.Fatal("the calls don't come to an end")
		}
		busy = false
		for thread := range w.c.Threads {
			if w.m.Busy(thread) {
				busy = true
				w.move(t, step(thread))
			}
		}
	}
}

// alone makes a call of a thread, and tells what it answers.
func (w *watch) alone(t *testing.T, mv api.Move) api.Answer {
	t.Helper()
	w.move(t, mv)
	for w.m.Busy(mv.Thread) {
		w.move(t, step(mv.Thread))
	}
	return w.callOf(mv.Thread).Answer
}

// P20.5, (1) to (3) behind every move of many scripts, and (4) behind each script.
func TestWhatRunsKeep(t *testing.T) {
	met := map[string]int{}
	eachChance(160, func(c api.Config, moves []api.Move) {
		w := watchOf(t, c, met)
		for _, mv := range moves {
			w.move(t, mv)
		}
		w.settle(t)
		for thread := range c.Threads {
			if one, two := w.alone(t, advance(thread)), w.alone(t, advance(thread)); one != yes || two != yes {
				t.Fatalf("two advances of thread %d alone answer %+v, %+v", thread, one, two)
			}
			if w.bagged(thread) > 0 {
				met["a bag emptied"]++
			}
			if a := w.alone(t, collect(thread)); a != done || w.bagged(thread) != 0 {
				t.Fatalf("behind two advances and a collect of thread %d: %+v, %d slots in its bag", thread, a, w.bagged(thread))
			}
		}
	})
	for _, what := range []string{
		"a swap of Free that fails", "a swap of Top that fails", "a swap of the epoch that fails", "a pin that goes round",
		"a draw that advances", "an access to a slot in a bag", "a slot given back", "a slot given back to a cache",
		"a slot given back by a draw", "a slot given back late", "a thread pinned in the epoch ahead", "a bag emptied",
	} {
		if met[what] < 10 {
			t.Errorf("%s: met %d times", what, met[what])
		}
	}
}

// P20.5 (4), of a thread whose bag was filled in many epochs, by whichever thread.
func TestTwoAdvancesAreEnough(t *testing.T) {
	for threads := 1; threads <= 4; threads++ {
		c := configOf(threads, 50, 1, 8)
		w := watchOf(t, c, map[string]int{})
		for i := range 6 {
			w.alone(t, pin(threads-1))
			w.alone(t, stow(threads-1, i))
			w.alone(t, draw(threads-1))
			w.alone(t, unpin(threads-1))
			w.alone(t, advance(i%threads))
		}
		if got := w.bagged(threads - 1); got != 6 {
			t.Fatalf("%d slots in the bag", got)
		}
		if one, two := w.alone(t, advance(threads-1)), w.alone(t, advance(threads-1)); one != yes || two != yes {
			t.Fatalf("the advances answer %+v, %+v", one, two)
		}
		if w.alone(t, collect(threads-1)); w.bagged(threads-1) != 0 {
			t.Errorf("%d slots in the bag", w.bagged(threads-1))
		}
	}
}

// P20.5 (1), (3): the same slot comes back on top while another thread is about to swap it: it can't, as
// long as that one is pinned; so what it draws is what stands there.
func TestSlotDoesNotComeBack(t *testing.T) {
	c := configOf(2, 1, 0, 2)
	w := watchOf(t, c, map[string]int{})
	for _, mv := range []api.Move{pin(0), stow(0, 1), stow(0, 2), pin(1)} {
		w.alone(t, mv)
	}
	w.move(t, draw(1))
	w.move(t, step(1))
	w.move(t, step(1)) // thread 1 has seen slot 1 on top, and slot 0 behind it
	for _, mv := range []api.Move{draw(0), draw(0), unpin(0)} {
		w.alone(t, mv)
	}
	for range 3 {
		w.alone(t, advance(0))
		w.alone(t, collect(0))
	}
	w.alone(t, pin(0))
	if a := w.alone(t, stow(0, 3)); a != full {
		t.Fatalf("%+v: a slot has come back", a)
	}
	w.move(t, step(1))
	w.move(t, step(1))
	if got := w.callOf(1); got.Answer != empty {
		t.Errorf("%+v", got)
	}
}
