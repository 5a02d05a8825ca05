package queue_test

import (
	"cmp"
	"slices"
	"testing"

	"reclaim/api"
)

// dice are the same numbers each time.
type dice uint64

func (d *dice) below(n int) int {
	*d = *d*6364136223846793005 + 1442695040888963407
	return int(uint64(*d) >> 33 % uint64(n))
}

// chanceMoves are moves of the queue's calls, of those of hazard, and others; steps come several at a
// time in some scripts, so that calls end, and one by one in others, so that they meet. Some scripts
// put in more than they take out. What is put in later is the greater value.
func chanceMoves(d *dice, c api.Config, count int) []api.Move {
	puts, burst := 4+d.below(4), 1+d.below(3)*d.below(4)
	var moves []api.Move
	for thread := range c.Threads {
		moves = append(moves, register(thread), step(thread), step(thread))
	}
	for len(moves) < count {
		thread := d.below(c.Threads)
		if d.below(60) == 0 {
			thread = c.Threads - (c.Threads+1)*d.below(2)
		}
		switch roll := d.below(40); {
		case roll < puts:
			moves = append(moves, enqueue(thread, len(moves)))
		case roll < 11:
			moves = append(moves, dequeue(thread))
		case roll == 11:
			moves = append(moves, register(thread))
		case roll == 12:
			moves = append(moves, post(thread, d.below(9)))
		case roll == 13:
			moves = append(moves, read(thread, d.below(c.Hazards+2)-1))
		case roll == 14:
			moves = append(moves, clearing(thread, d.below(c.Hazards+2)-1))
		case roll == 15 && d.below(2) == 0:
			moves = append(moves, scan(thread))
		case roll == 16 && d.below(3) == 0:
			moves = append(moves, unregister(thread))
		default:
			moves = append(moves, slices.Repeat([]api.Move{step(thread)}, 1+d.below(burst))...)
		}
	}
	return moves[:count]
}

// eachChance goes through scripts over queues of many sizes.
func eachChance(count int, do func(c api.Config, moves []api.Move)) {
	d := dice(17)
	for range count {
		c := configOf(1+d.below(4), 1+d.below(4), 1+d.below(4), d.below(3), 1+d.below(12))
		c.Buckets, c.Hazards = 1+d.below(3), 3+d.below(2)
		do(c, chanceMoves(&d, c, d.below(900)))
	}
}

// watch holds a yard against P7.3 behind every move.
type watch struct {
	*yard
	run   api.Run            // as it was behind the move ahead
	took  map[int]struct{}   // the calls, by their numbers, that have swapped Head
	ahead map[int]api.Access // of each thread, its last access but for the one of this move
	met   map[string]int
}

func watchOf(t *testing.T, c api.Config, met map[string]int) *watch {
	y := yardOf(t, c)
	return &watch{yard: y, run: y.m.Run(), took: map[int]struct{}{}, ahead: map[int]api.Access{}, met: met}
}

// move makes a move, and asks for all promises.
func (w *watch) move(t *testing.T, mv api.Move) {
	t.Helper()
	before := w.run
	w.m.Move(mv)
	w.run = w.m.Run()
	for _, a := range w.run.Trace[len(before.Trace):] {
		w.note(t, a)
		w.wantThere(t, a)
		w.ahead[a.Thread] = a
	}
	w.noteShifts(w.run.Shifts[len(before.Shifts):])
	w.wantOrder(t)
	w.wantShape(t)
	w.noteEnd(t, mv.Thread)
}

// callOf is the number of a thread's last call.
func (w *watch) callOf(thread int) int {
	for number, call := range slices.Backward(w.run.Calls) {
		if call.Thread == thread {
			return number
		}
	}
	return -1
}

// note notes which calls have swapped Head, and what accesses have met.
func (w *watch) note(t *testing.T, a api.Access) {
	t.Helper()
	number := w.callOf(a.Thread)
	call := w.run.Calls[number]
	of := map[api.Op]string{api.OpEnqueue: "an enqueue", api.OpDequeue: "a dequeue"}[call.Op]
	how := map[bool]string{true: "", false: " too late"}[a.Saw == a.Old]
	changed := a.Saw != w.ahead[a.Thread].New && w.ahead[a.Thread].Kind == api.AccessStore
	switch {
	case of == "" || a.Kind == api.AccessStore:
	case a.Kind == api.AccessLoad && a.Addr == tailAddr && call.Op == api.OpEnqueue && changed:
		w.met["an enqueue whose Tail changes"]++
	case a.Kind == api.AccessLoad && a.Addr == headAddr && w.ahead[a.Thread].Addr == w.Addr(a.Thread, 0) && changed:
		w.met["a dequeue whose Head changes"]++
	case a.Kind == api.AccessLoad && a.Addr == headAddr && w.ahead[a.Thread].Addr == w.Addr(a.Thread, 1) &&
		w.ahead[a.Thread].New != 0 && a.Saw != w.run.Words[w.Addr(a.Thread, 0)]:
		w.met["a dequeue whose Head has changed"]++
	case a.Kind == api.AccessLoad:
	case a.Addr == tailAddr && call.Point < 0:
		w.met[of+" that helps"+how]++
	case a.Addr == tailAddr:
		w.met[of+" that swaps Tail"+how]++
	case a.Addr == headAddr:
		w.met[of+" that swaps Head"+how]++
		if a.Saw == a.Old {
			w.took[number] = struct{}{}
			if call.Point != a.Move {
				t.Fatalf("%+v, but the point of %+v is another", a, call)
			}
		}
	case a.Addr != freeAddr && call.Op == api.OpEnqueue:
		w.met[of+" that swaps a link"+how]++
	}
}

// wantThere is G2 of an access: a slot whose value or link is loaded or written is neither free nor in
// a cache, and if it is owned it is the thread's.
func (w *watch) wantThere(t *testing.T, a api.Access) {
	t.Helper()
	for slot := range w.c.Slots {
		if a.Addr != w.valueAt(slot) && a.Addr != w.linkAt(slot) {
			continue
		}
		state, holder, _ := w.a.State(slot)
		if state == api.StateFree || state == api.StateCached || state == api.StateOwned && holder != a.Thread {
			t.Fatalf("%+v, of slot %d in state %d with %d", a, slot, state, holder)
		}
	}
}

func (w *watch) noteShifts(shifts []api.Shift) {
	for _, s := range shifts {
		if s.From == api.StateCached && w.run.Calls[w.callOf(s.Thread)].Op == api.OpEnqueue {
			w.met["an enqueue out of the cache"]++
		}
	}
}

// wantOrder is P7.3 (1) and (4), and that each point lies within its call's time.
func (w *watch) wantOrder(t *testing.T) {
	t.Helper()
	type item struct{ thread, value int }
	var row []item
	last := map[int]int{} // of each thread, the value of its own that came out last
	for _, number := range w.pointed(t) {
		c := w.run.Calls[number]
		_, took := w.took[number]
		switch {
		case c.Op == api.OpEnqueue && (c.Answer == done || c.End < 0):
			row = append(row, item{c.Thread, c.Arg})
			continue
		case c.Op == api.OpEnqueue:
			t.Fatalf("%+v", c)
		case took != (len(row) > 0):
			t.Fatalf("%+v takes: %v, but the queue is %v", c, took, row)
		}
		want := empty
		if took {
			first := row[0]
			row = row[1:]
			want = value(first.value)
			if first.value <= last[first.thread] {
				t.Fatalf("thread %d's %d comes out behind its %d", first.thread, first.value, last[first.thread])
			}
			last[first.thread] = first.value
		}
		if c.End >= 0 && c.Answer != want {
			t.Fatalf("%+v, not %+v", c, want)
		}
	}
	var left []int
	for _, one := range row {
		left = append(left, one.value)
	}
	if got := valuesOf(w.c, w.run.Words); !slices.Equal(got, left) {
		t.Fatalf("the words have %v, the calls leave %v", got, left)
	}
}

// pointed are the numbers of the queue's calls that have a point and did not answer Full, in the order
// of their points.
func (w *watch) pointed(t *testing.T) []int {
	t.Helper()
	var numbers []int
	for number, c := range w.run.Calls {
		ofQueue := c.Op == api.OpEnqueue || c.Op == api.OpDequeue
		switch {
		case !ofQueue, c.Point < 0 && c.End < 0:
		case c.Point <= c.Begin, c.End >= 0 && c.Point > c.End:
			t.Fatalf("%+v", c)
		case c.Answer != full:
			numbers = append(numbers, number)
		}
	}
	slices.SortFunc(numbers, func(a, b int) int { return cmp.Compare(w.run.Calls[a].Point, w.run.Calls[b].Point) })
	return numbers
}

// wantShape is P7.3 (2) and (3).
func (w *watch) wantShape(t *testing.T) {
	t.Helper()
	row := slotsOf(w.c, w.run.Words)
	tail := slices.Index(row, int(w.run.Words[tailAddr])-1)
	if tail < 0 || tail < len(row)-2 {
		t.Fatalf("the slots are %v, Tail is %x", row, w.run.Words[tailAddr])
	}
	if tail == len(row)-2 {
		w.met["a Tail that is behind"]++
	}
	if cell := int(w.run.Words[1]) - 1; cell >= 0 {
		row = append(row, cell)
	}
	var linked []int
	for slot := range w.c.Slots {
		if state, _, _ := w.a.State(slot); state == api.StateLinked {
			linked = append(linked, slot)
		}
	}
	slices.Sort(row)
	if !slices.Equal(row, linked) {
		t.Fatalf("the slots from Head on and the cell's are %v, linked are %v", row, linked)
	}
}

// noteEnd notes how a call has ended; of an enqueue that found no slot it asks for G4.
func (w *watch) noteEnd(t *testing.T, thread int) {
	t.Helper()
	call, known := w.m.Call(thread)
	switch {
	case !known || call.End != w.m.Moves()-1:
	case call.Op == api.OpDequeue && call.Answer == empty:
		w.met["a dequeue of an empty queue"]++
	case call.Op == api.OpDequeue && len(w.List(w.Record(thread))) > 0:
		w.met["a dequeue whose slot stays retired"]++
	case call.Op == api.OpEnqueue && call.Answer == full:
		w.met["an enqueue that finds no slot"]++
		if free := w.a.Count(api.StateFree); free > 0 || len(w.a.Cached(thread)) > 0 {
			t.Fatalf("%+v, but %d slots are free, %v cached", call, free, w.a.Cached(thread))
		}
	}
}

// P7.3: behind every move of chance scripts, which meet all that there is to meet.
func TestRules(t *testing.T) {
	met := map[string]int{}
	eachChance(300, func(c api.Config, moves []api.Move) {
		w := watchOf(t, c, met)
		for _, mv := range moves {
			w.move(t, mv)
		}
	})
	for _, what := range []string{
		"a Tail that is behind", "an enqueue out of the cache", "an enqueue that finds no slot", "an enqueue whose Tail changes",
		"an enqueue that helps", "an enqueue that helps too late", "an enqueue that swaps Tail", "an enqueue that swaps Tail too late",
		"an enqueue that swaps a link", "an enqueue that swaps a link too late",
		"a dequeue of an empty queue", "a dequeue whose Head changes", "a dequeue whose Head has changed",
		"a dequeue that helps", "a dequeue that helps too late", "a dequeue that swaps Head", "a dequeue that swaps Head too late",
		"a dequeue whose slot stays retired",
	} {
		if met[what] == 0 {
			t.Errorf("no script comes to %s", what)
		}
		delete(met, what)
	}
	if len(met) > 0 {
		t.Errorf("there are %v too", met)
	}
}

// P7.3: likewise of three calls of two threads, over queues of up to two values: the first one is cut
// at each of its steps, the second one is made whole there, and the third one is cut at each of its
// steps by the rest of the first.
func TestRulesOfCutCalls(t *testing.T) {
	values := 0
	calls := []func(thread int) api.Move{func(thread int) api.Move { values++; return enqueue(thread, values) }, dequeue}
	for held := range 3 {
		for kind := range 8 {
			for cut := range 20 {
				for other := range 20 {
					w := watchOf(t, configOf(2, 2, 1, 0, 4), map[string]int{})
					w.calls(t, register(0), register(1))
					for range held {
						w.whole(t, calls[0](0))
					}
					w.move(t, calls[kind&1](0))
					w.times(t, 0, cut)
					w.whole(t, calls[kind>>1&1](1))
					w.move(t, calls[kind>>2](1))
					w.times(t, 1, other)
					w.times(t, 0, 50)
					w.times(t, 1, 50)
				}
			}
		}
	}
}

// whole makes a call to its end.
func (w *watch) whole(t *testing.T, mv api.Move) {
	t.Helper()
	w.move(t, mv)
	w.times(t, mv.Thread, 50)
	if w.m.Busy(mv.Thread) {
		t.Fatalf("%+v doesn't come to an end", mv)
	}
}

// times lets a thread make so many steps, or fewer if its call ends.
func (w *watch) times(t *testing.T, thread, count int) {
	t.Helper()
	for range count {
		if !w.m.Busy(thread) {
			return
		}
		w.move(t, step(thread))
	}
}
