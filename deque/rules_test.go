package deque_test

import (
	"cmp"
	"slices"
	"testing"

	"reclaim/api"
	"reclaim/deque"
)

// watch holds a machine against P21.8 to P21.11 behind every move.
type watch struct {
	*yard
	run   api.Run      // as it was behind the last move
	seen  []sight      // of each thread, what its call has seen
	rises []api.Access // the swaps of top that have succeeded
	met   map[string]int
}

// sight is what a thread's call has seen so far.
type sight struct {
	steps       int
	bottom, top int // as they were loaded last
	rises       int // how many swaps had succeeded when top was loaded last
}

func watchOf(t *testing.T, d api.Deque, met map[string]int) *watch {
	y := yardOf(t, d)
	return &watch{yard: y, run: y.m.Run(), seen: make([]sight, d.Threads), met: met}
}

// move makes a move, and asks for all promises.
func (w *watch) move(t *testing.T, mv api.Move) {
	t.Helper()
	w.moveOn(t, mv)
	w.wantHolds(t)
	w.wantAtRest(t)
}

// moveOn makes a move, and asks what its access may be.
func (w *watch) moveOn(t *testing.T, mv api.Move) {
	t.Helper()
	ahead := w.run
	w.m.Move(mv)
	w.run = w.m.Run()
	if len(w.run.Calls) > len(ahead.Calls) {
		w.seen[mv.Thread] = sight{}
	}
	made := w.run.Trace[len(ahead.Trace):]
	if len(made) > 1 || len(w.run.Shifts) > 0 {
		t.Fatalf("move %d makes the accesses %+v and has shifts %+v", w.now(), made, w.run.Shifts)
	}
	for _, a := range made {
		w.wantRising(t, a, ahead.Words)
		w.wantSeldom(t, a)
		w.note(a)
	}
}

// wantRising is P21.11.
func (w *watch) wantRising(t *testing.T, a api.Access, ahead []uint64) {
	t.Helper()
	rises := a.Kind == api.AccessSwap && a.Saw == a.Old
	if rises && (a.Addr != topAt || a.New != a.Old+1) || a.Kind == api.AccessSwap && a.Addr != topAt || a.Kind == api.AccessStore && a.Addr == topAt {
		t.Fatalf("%+v", a)
	}
	want := ahead[topAt]
	if rises {
		want++
		w.rises = append(w.rises, a)
	}
	if w.run.Words[topAt] != want {
		t.Fatalf("behind %+v top is %d, not %d", a, w.run.Words[topAt], want)
	}
}

// wantSeldom is P21.10, but for calls that are alone.
func (w *watch) wantSeldom(t *testing.T, a api.Access) {
	t.Helper()
	s, call := &w.seen[a.Thread], w.last(a.Thread)
	s.steps++
	switch {
	case a.Kind == api.AccessLoad && a.Addr == topAt:
		s.top, s.rises = int(a.Saw), len(w.rises)
	case a.Kind == api.AccessLoad && a.Addr == bottomAt:
		s.bottom = int(a.Saw)
	case a.Kind == api.AccessSwap && call.Op == api.OpDequeTake && s.bottom-s.top != 1:
		t.Fatalf("%+v of a take that has seen the bottom %d and the top %d", a, s.bottom, s.top)
	case a.Kind == api.AccessSwap && call.Op == api.OpDequePush:
		t.Fatalf("%+v of a push", a)
	case a.Kind == api.AccessSwap && a.Saw != a.Old:
		if !slices.ContainsFunc(w.rises[s.rises:], func(o api.Access) bool { return o.Thread != a.Thread && o.Old == a.Old }) {
			t.Fatalf("%+v fails, and no other thread's has succeeded since the load of top", a)
		}
	}
	if call.Op != api.OpSteal && s.steps > 7 {
		t.Fatalf("%+v makes more than 7 steps", call)
	}
}

// note counts what is rare.
func (w *watch) note(a api.Access) {
	call := w.last(a.Thread)
	swap, failed := a.Kind == api.AccessSwap, a.Saw != a.Old
	switch {
	case swap && failed && call.Op == api.OpSteal:
		w.met["a steal whose swap fails"]++
	case swap && failed:
		w.met["a take whose swap fails"]++
	case swap && call.Op == api.OpDequeTake:
		w.met["a take whose swap succeeds"]++
	case swap && call.Point != w.now():
		w.met["a steal whose point is the take's"]++
		if a.Thread != 0 && w.last(0).Point == call.Point {
			w.met["a steal and a take with one point"]++
		}
	case a.Kind == api.AccessStore && a.Addr >= 2 && a.Addr < 2+w.seen[0].bottom:
		w.met["a cell used again"]++
	case a.Addr == bottomAt && a.Saw == 1<<64-1 && a.Thread != 0:
		w.met["a thief that sees a bottom below 0"]++
	}
	if call.Answer == full {
		w.met["a push that finds no room"]++
	}
	if call.Answer.Kind == api.AnswerValue && call.Op == api.OpDequeTake && !swap && w.seen[0].bottom-w.seen[0].top > 1 {
		w.met["a take without a swap"]++
	}
	if call.Answer == empty && call.Op == api.OpDequeTake && call.Point == call.End-1 {
		w.met["a take of nothing"]++
	}
}

// wantAtRest is P21.8's second part and P21.9, if no call is on its way.
func (w *watch) wantAtRest(t *testing.T) {
	t.Helper()
	for thread := range w.d.Threads {
		if w.m.Busy(thread) {
			return
		}
	}
	got, e := deque.Left(w.d, w.run.Words)
	if want := leftOf(w.run); !slices.Equal(got, want) || e != api.OK {
		t.Fatalf("behind move %d there is %v, %d left, not %v", w.now(), got, e, want)
	}
	var in, out []int
	for _, c := range w.run.Calls {
		switch {
		case c.Answer == done:
			in = append(in, c.Arg)
		case c.Answer.Kind == api.AnswerValue:
			out = append(out, c.Answer.Value)
		}
	}
	out = append(out, got...)
	slices.Sort(in)
	slices.Sort(out)
	if !slices.Equal(in, out) {
		t.Fatalf("behind move %d: what went in is %v, what went out or is left %v", w.now(), in, out)
	}
	w.met["rest"]++
}

// leftOf are the values that a run's calls leave, in the order of their points.
func leftOf(r api.Run) []int {
	calls := slices.DeleteFunc(slices.Clone(r.Calls), func(c api.Call) bool {
		return c.Point < 0 || c.Answer == full || c.Answer == empty
	})
	slices.SortFunc(calls, func(a, b api.Call) int { return cmp.Compare(a.Point, b.Point) })
	var values []int
	for _, c := range calls {
		switch c.Op {
		case api.OpDequePush:
			values = append(values, c.Arg)
		case api.OpDequeTake:
			values = values[:len(values)-1]
		default:
			values = values[1:]
		}
	}
	return values
}

// end lets all threads make steps, in turn, till none is busy.
func (w *watch) end(t *testing.T) {
	t.Helper()
	for busy, count := true, 0; busy; count++ {
		if count > 400 {
			t.Fatal("the calls don't come to an end")
		}
		busy = false
		for thread := range w.d.Threads {
			if w.m.Busy(thread) {
				busy = true
				w.move(t, step(thread))
			}
		}
	}
}

func wantMet(t *testing.T, met map[string]int, least int, what ...string) {
	t.Helper()
	for _, x := range what {
		if met[x] < least {
			t.Errorf("%s: met %d times", x, met[x])
		}
	}
}

// P21.8 to P21.11 behind every move of many scripts, and when all their calls have ended.
func TestWhatRunsKeep(t *testing.T) {
	met := map[string]int{}
	eachChance(1200, func(d api.Deque, moves []api.Move) {
		w := watchOf(t, d, met)
		for _, mv := range moves[:len(moves)/3] {
			w.move(t, mv)
		}
		w.end(t)
	})
	wantMet(t, met, 20,
		"a steal whose swap fails", "a take whose swap fails", "a take whose swap succeeds", "a steal whose point is the take's",
		"a steal and a take with one point", "a cell used again", "a thief that sees a bottom below 0",
		"a push that finds no room", "a take without a swap", "a take of nothing", "rest")
}

// P21.8, P21.9, P21.11 of scripts as long as may be.
func TestWhatLongRunsKeep(t *testing.T) {
	c := dice(9)
	for _, d := range []api.Deque{dequeOf(api.MaxThreads, 1), dequeOf(3, 2), dequeOf(2, api.MaxRoom), dequeOf(1, 1)} {
		moves := chanceMoves(&c, d, api.MaxMoves-1000)
		for thread := range d.Threads { // enough for all calls to end, one after the other
			moves = append(moves, slices.Repeat([]api.Move{step(thread)}, 8)...)
		}
		r := playOf(t, d, moves...)
		if so, e := deque.Holds(d, r); !so || e != api.OK {
			t.Fatalf("Holds = %v, %d", so, e)
		}
		wantLeft(t, d, r.Words, leftOf(r)...)
		rises := 0
		for _, a := range r.Trace {
			if a.Kind == api.AccessSwap && a.Saw == a.Old {
				rises++
			}
		}
		if int(r.Words[topAt]) != rises || rises < 100 {
			t.Errorf("top is %d behind %d swaps that succeeded", r.Words[topAt], rises)
		}
	}
}

// P21.10: a call that is alone from some move on ends within 7 steps, and there are some that need as many.
func TestAloneEndsSoon(t *testing.T) {
	c := dice(3)
	longest := map[api.Op]int{}
	eachChance(120, func(d api.Deque, moves []api.Move) {
		if d.Threads > 5 {
			return
		}
		for range 6 {
			cut := moves[:c.below(len(moves)+1)]
			for thread := range d.Threads {
				y := yardOf(t, d)
				for _, mv := range cut {
					y.m.Move(mv)
				}
				steps := 0
				for ; y.m.Busy(thread); steps++ {
					if steps == 7 {
						t.Fatalf("%+v has not ended behind 7 steps alone", y.last(thread))
					}
					y.steps(t, thread, 1)
				}
				op := y.last(thread).Op
				longest[op] = max(longest[op], steps)
			}
		}
	})
	if longest[api.OpDequePush] != 4 || longest[api.OpDequeTake] != 6 || longest[api.OpSteal] != 7 {
		t.Errorf("the longest are %v", longest)
	}
}

// meetings makes all runs in which the calls that these moves begin in a deque with these values can meet, and
// holds each against all promises behind every move.
func meetings(t *testing.T, met map[string]int, d api.Deque, values []int, moves ...api.Move) int {
	t.Helper()
	var picks []int // which of the busy threads goes on, from 0 on
	asked := 0      // so many picks are those of the run ahead, which was asked there
	for runs := 1; ; runs++ {
		w := watchOf(t, d, met)
		for _, v := range values {
			w.make(t, push(v))
			w.finish(t, 0)
		}
		w.run = w.m.Run()
		for _, mv := range moves {
			w.moveOn(t, mv)
		}
		var counts []int
		for i := 0; ; i++ {
			busy := w.busy()
			if len(busy) == 0 {
				break
			}
			if i == len(picks) {
				picks = append(picks, 0)
			}
			counts = append(counts, len(busy))
			if mv := step(busy[picks[i]]); i < asked {
				w.moveOn(t, mv)
			} else {
				w.move(t, mv)
			}
		}
		i := len(picks) - 1
		for i >= 0 && picks[i] == counts[i]-1 {
			i--
		}
		if i < 0 {
			return runs
		}
		picks = append(picks[:i], picks[i]+1)
		asked = i
	}
}

func (w *watch) busy() []int {
	var threads []int
	for thread := range w.d.Threads {
		if w.m.Busy(thread) {
			threads = append(threads, thread)
		}
	}
	return threads
}

// P21.8 to P21.11 in all meetings of one of the owner's calls and one steal, of deques of all fillings.
func TestAllMeetingsOfTwo(t *testing.T) {
	met := map[string]int{}
	runs := 0
	for room := 1; room <= 3; room++ {
		for count := range room + 1 {
			for _, mv := range []api.Move{push(9), take(), steal(0)} {
				runs += meetings(t, met, dequeOf(2, room), []int{5, 6, 7}[:count], mv, steal(1))
			}
		}
	}
	if runs < 1000 {
		t.Errorf("%d runs", runs)
	}
	wantMet(t, met, 1, "a steal whose swap fails", "a take whose swap fails", "a take whose swap succeeds",
		"a steal whose point is the take's", "a steal and a take with one point")
}

// P21.8 to P21.11 in all meetings of a take and two steals: of one value, where all three are at it, and of two.
// The take's load of bottom is made ahead of all, since what it sees is the same wherever it is made.
func TestAllMeetingsOfThree(t *testing.T) {
	met := map[string]int{}
	runs := meetings(t, met, dequeOf(3, 1), nil, take(), step(0), steal(1), steal(2))
	runs += meetings(t, met, dequeOf(3, 1), []int{5}, take(), step(0), steal(1), steal(2))
	runs += meetings(t, met, dequeOf(3, 2), []int{5, 6}, take(), step(0), steal(1), steal(2))
	if runs < 10000 {
		t.Errorf("%d runs", runs)
	}
	wantMet(t, met, 1, "a steal whose swap fails", "a take whose swap fails", "a take whose swap succeeds",
		"a steal whose point is the take's", "a steal and a take with one point")
}
