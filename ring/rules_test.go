package ring_test

import (
	"slices"
	"testing"

	"reclaim/api"
	"reclaim/ring"
)

// watch holds a machine against P22.5 behind every move.
type watch struct {
	*wheel
	run     api.Run // as it was behind the last move
	thread  int     // the one that made the last steps
	stretch int     // how many steps of one call these are
	met     map[string]int
}

func watchOf(t *testing.T, c api.Ring, met map[string]int) *watch {
	w := wheelOf(t, c)
	return &watch{wheel: w, run: w.m.Run(), thread: none, met: met}
}

// move makes a move, and asks for the promises.
func (w *watch) move(t *testing.T, mv api.Move) {
	t.Helper()
	w.moveOn(t, mv)
	w.wantHolds(t)
}

// moveOn makes a move, and asks that no call goes on alone for more than 8 steps.
func (w *watch) moveOn(t *testing.T, mv api.Move) {
	t.Helper()
	ahead := w.run
	w.m.Move(mv)
	w.run = w.m.Run()
	made := w.run.Trace[len(ahead.Trace):]
	if len(made) > 1 || len(w.run.Shifts) > 0 {
		t.Fatalf("move %d makes the accesses %+v and has shifts %+v", w.now(), made, w.run.Shifts)
	}
	if len(w.run.Calls) > len(ahead.Calls) {
		w.stretch = 0
	}
	for _, a := range made {
		if a.Thread != w.thread {
			w.thread, w.stretch = a.Thread, 0
		}
		w.stretch++
		if w.stretch > 8 {
			t.Fatalf("behind move %d thread %d has made %d steps alone", w.now(), a.Thread, w.stretch)
		}
		w.note(a, ahead.Words)
	}
}

// note counts what is rare.
func (w *watch) note(a api.Access, ahead []uint64) {
	op := w.last(a.Thread).Op
	what := map[api.Op]string{api.OpPut: "a put", api.OpPick: "a pick"}[op]
	counter := int(op - api.OpPut)
	ticket := int(ahead[counter])
	turn := int(a.Saw)
	switch {
	case a.Kind == api.AccessSwap && a.Saw != a.Old:
		w.met[what+" whose swap fails"]++
	case a.Kind != api.AccessLoad || a.Addr < 2 || a.Addr%2 == 1:
	case !w.m.Busy(a.Thread):
		w.met[what+" that is refused"]++
		if op == api.OpPut && int(ahead[putsAt]-ahead[picksAt]) < w.c.Cells {
			w.met["a put that is full though picks have their tickets"]++
		}
		if op == api.OpPick && ahead[putsAt] > ahead[picksAt] {
			w.met["a pick that is empty though puts have their tickets"]++
		}
	case turn > ticket+counter || a.Addr != turnAt(w.c, ticket):
		w.met[what+" whose turn is above"]++
	case ticket >= w.c.Cells:
		w.met[what+" behind the ring's end"]++
	}
}

// wantInOrder is P22.5's second part.
func wantInOrder(t *testing.T, r api.Run) {
	t.Helper()
	for _, s := range sides() {
		list := plainPassed(r, s)
		for i, p := range list {
			for _, q := range list[i:] {
				if q.end != -1 && q.end < r.Calls[p.Call].Begin {
					t.Fatalf("call %d has ended ahead of call %d, and has the ticket %d, not below %d", q.Call, p.Call, q.Number, p.Number)
				}
			}
		}
	}
}

// end lets all threads make steps, in turn, till none is busy.
func (w *watch) end(t *testing.T) {
	t.Helper()
	for count := 0; len(w.busy()) > 0; count++ {
		if count > 400 {
			t.Fatal("the calls don't come to an end")
		}
		for _, thread := range w.busy() {
			w.move(t, step(thread))
		}
	}
}

func (w *watch) busy() []int {
	var threads []int
	for thread := range w.c.Threads {
		if w.m.Busy(thread) {
			threads = append(threads, thread)
		}
	}
	return threads
}

// rare is what is to be met.
func rare() []string {
	return []string{
		"a put whose swap fails", "a pick whose swap fails", "a put whose turn is above", "a pick whose turn is above",
		"a put that is refused", "a pick that is refused", "a put behind the ring's end", "a pick behind the ring's end",
		"a put that is full though picks have their tickets", "a pick that is empty though puts have their tickets",
	}
}

// P22.5 behind every move of many scripts, and when all their calls have ended.
func TestWhatRunsKeep(t *testing.T) {
	met := map[string]int{}
	eachChance(900, func(c api.Ring, moves []api.Move) {
		w := watchOf(t, c, met)
		for _, mv := range moves[:len(moves)/3] {
			w.move(t, mv)
		}
		wantInOrder(t, w.run)
		w.end(t)
		wantInOrder(t, w.run)
		w.wantAllOut(t)
	})
	wantMet(t, met, 50, rare()...)
}

// wantAllOut picks all that is left: where no call is on its way, that is what the puts behind the last pick have
// put, in their order.
func (w *watch) wantAllOut(t *testing.T) {
	t.Helper()
	puts, picks := plainPassed(w.run, sides()[0]), plainPassed(w.run, sides()[1])
	for _, p := range puts[len(picks):] {
		w.calls(t, value(p.Value), pick(0))
	}
	w.calls(t, empty, pick(0))
	for i := range w.c.Cells {
		w.calls(t, done, put(0, i))
	}
	w.calls(t, full, put(0, 5))
	w.wantHolds(t)
}

// P22.5's first two parts of scripts as long as may be.
func TestWhatLongRunsKeep(t *testing.T) {
	d := dice(9)
	for _, c := range []api.Ring{ringOf(api.MaxThreads, 2), ringOf(3, 3), ringOf(2, api.MaxRing), ringOf(1, 2)} {
		r := playOf(t, c, chanceMoves(&d, c, api.MaxMoves)...)
		if so, e := ring.Holds(c, r); !so || e != api.OK {
			t.Fatalf("Holds = %v, %d", so, e)
		}
		if r.Words[putsAt] < 500 || r.Words[picksAt] < 500 {
			t.Errorf("%d puts and %d picks", r.Words[putsAt], r.Words[picksAt])
		}
		var first api.Run // the beginning alone, since the second part is asked of each two calls
		first.Calls = r.Calls[:min(len(r.Calls), 2000)]
		first.Trace = r.Trace[:min(len(r.Trace), 8000)]
		wantInOrder(t, first)
	}
}

// P22.5.3: a call that is alone from some move on ends within 8 steps; the longest make 7: a turn and a swap for a ticket
// that another call has got already, and then all five.
func TestAloneEndsSoon(t *testing.T) {
	d := dice(3)
	longest := map[api.Op]int{}
	eachChance(120, func(c api.Ring, moves []api.Move) {
		if c.Threads > 5 {
			return
		}
		for range 6 {
			cut := moves[:d.below(len(moves)+1)]
			for thread := range c.Threads {
				w := wheelOf(t, c)
				for _, mv := range cut {
					w.m.Move(mv)
				}
				steps := 0
				for ; w.m.Busy(thread); steps++ {
					if steps == 8 {
						t.Fatalf("%+v has not ended behind 8 steps alone", w.last(thread))
					}
					w.steps(t, thread, 1)
				}
				op := w.last(thread).Op
				longest[op] = max(longest[op], steps)
			}
		}
	})
	if longest[api.OpPut] != 7 || longest[api.OpPick] != 7 {
		t.Errorf("the longest are %v", longest)
	}
}

// P22.5.4: where each call ends ahead of the next one's beginning, whoever makes them, and whatever else does
// nothing between, it is a queue of at most Cells values.
func TestOneAfterTheOther(t *testing.T) {
	d := dice(12)
	met := map[api.AnswerKind]int{}
	for range 150 {
		c := chanceRing(&d)
		w := wheelOf(t, c)
		var queue []int
		puts := 3 + d.below(4)
		for i := range 400 {
			thread := d.below(c.Threads)
			mv, want := pick(thread), empty
			switch isPut := d.below(8) < puts; {
			case isPut && len(queue) == c.Cells:
				mv, want = put(thread, i), full
			case isPut:
				mv, want, queue = put(thread, i), done, append(queue, i)
			case len(queue) > 0:
				want, queue = value(queue[0]), queue[1:]
			}
			for range d.below(3) {
				w.m.Move(step(d.below(c.Threads + 1)))
			}
			w.calls(t, want, mv)
			met[want.Kind]++
			if i%40 == 0 {
				w.wantHolds(t)
			}
		}
		w.wantHolds(t)
		wantInOrder(t, w.m.Run())
	}
	for _, kind := range []api.AnswerKind{api.AnswerDone, api.AnswerValue, api.AnswerEmpty, api.AnswerFull} {
		if met[kind] < 1000 {
			t.Errorf("answer %d: met %d times", kind, met[kind])
		}
	}
}

// meetings goes through all ways in which calls can meet in a ring that was gone round by so many values and
// has some, asks for the promises, and tells how many ways there are.
func meetings(t *testing.T, met map[string]int, c api.Ring, picked int, values []int, moves ...api.Move) int {
	t.Helper()
	var picks []int
	asked := 0 // the steps ahead of it were asked for in an earlier way
	for ways := 1; ; ways++ {
		w := &watch{wheel: filled(t, c, picked, values...), thread: none, met: met}
		w.run = w.m.Run()
		for _, mv := range moves {
			w.moveOn(t, mv)
		}
		var counts []int
		for i := 0; ; i++ {
			busy := w.busy()
			if len(busy) == 0 {
				break
			}
			if i == len(picks) {
				picks = append(picks, 0)
			}
			counts = append(counts, len(busy))
			if mv := step(busy[picks[i]]); i < asked {
				w.moveOn(t, mv)
			} else {
				w.move(t, mv)
			}
		}
		wantInOrder(t, w.run)
		i := len(picks) - 1
		for i >= 0 && picks[i] == counts[i]-1 {
			i--
		}
		if i < 0 {
			return ways
		}
		picks = append(picks[:i], picks[i]+1)
		asked = i
	}
}

// P22.5 in all meetings of two calls, in rings of all fillings, at and around the ring's end.
func TestAllMeetingsOfTwo(t *testing.T) {
	met := map[string]int{}
	ways := 0
	for cells := 2; cells <= 3; cells++ {
		for count := range cells + 1 {
			for picked := range cells {
				for _, two := range [][]api.Move{{put(0, 8), put(1, 9)}, {put(0, 8), pick(1)}, {pick(0), pick(1)}} {
					ways += meetings(t, met, ringOf(2, cells), picked, []int{5, 6, 7}[:count], two...)
				}
			}
		}
	}
	if ways < 5000 {
		t.Errorf("%d ways", ways)
	}
	wantMet(t, met, 1, rare()[:8]...)
}

// P22.5 in all meetings of three calls, two of which have made some steps alone.
func TestAllMeetingsOfThree(t *testing.T) {
	met := map[string]int{}
	ways := 0
	for _, three := range [][]api.Move{
		{put(0, 7), step(0), step(0), put(1, 8), step(1), step(1), pick(2)},
		{put(0, 7), step(0), step(0), step(0), put(1, 8), step(1), step(1), step(1), pick(2)},
		{pick(0), step(0), step(0), step(0), pick(1), step(1), step(1), put(2, 8)},
		{pick(0), step(0), step(0), pick(1), step(1), put(2, 8), step(2)},
	} {
		for _, values := range [][]int{nil, {5}, {5, 6}} {
			ways += meetingsThatMay(t, met, values, three)
		}
	}
	if ways < 5000 {
		t.Errorf("%d ways", ways)
	}
	wantMet(t, met, 1, "a put whose swap fails", "a pick whose swap fails", "a put that is refused", "a pick that is refused")
}

// meetingsThatMay are those behind these moves, without the steps of calls that have ended by then.
func meetingsThatMay(t *testing.T, met map[string]int, values []int, moves []api.Move) int {
	t.Helper()
	w := filled(t, ringOf(3, 2), 1, values...)
	kept := slices.DeleteFunc(slices.Clone(moves), func(mv api.Move) bool { return !w.m.Move(mv) })
	return meetings(t, met, ringOf(3, 2), 1, values, kept...)
}
