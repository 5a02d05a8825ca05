package locks_test

import (
	"fmt"
	"slices"
	"testing"

	"reclaim/api"
	"reclaim/locks"
)

// watch holds a machine against P24.5 behind every move.
type watch struct {
	*gate
	run api.Run // as it was behind the last move
	met map[string]int
}

func watchOf(t *testing.T, c api.Locks, met map[string]int) *watch {
	g := gateOf(t, c)
	return &watch{gate: g, run: g.m.Run(), met: met}
}

// move makes a move, and asks for the promises.
func (w *watch) move(t *testing.T, mv api.Move) {
	t.Helper()
	w.moveOn(t, mv)
	w.wantHolds(t)
}

// moveOn makes a move, and asks for those promises that are soon asked for.
func (w *watch) moveOn(t *testing.T, mv api.Move) {
	t.Helper()
	ahead := w.run
	w.m.Move(mv)
	w.run = w.m.Run()
	made := w.run.Trace[len(ahead.Trace):]
	if len(made) > 1 || len(w.run.Shifts) > 0 {
		t.Fatalf("move %d makes the accesses %+v and has shifts %+v", w.now(), made, w.run.Shifts)
	}
	if len(w.run.Calls) > len(ahead.Calls) {
		w.met["begun"]++
	}
	for _, a := range made {
		w.wantWaiting(t, a, last(ahead.Calls, a.Thread))
		w.note(a)
	}
	if c := w.last(mv.Thread); c.End == w.now() && c.Op == api.OpAcquire {
		w.wantFirst(t, c)
	}
}

// last is a thread's last call.
func last(calls []api.Call, thread int) api.Call {
	for _, c := range slices.Backward(calls) {
		if c.Thread == thread {
			return c
		}
	}
	return api.Call{Point: none}
}

// wantWaiting is P24.5's fourth part: behind its point a call makes loads alone. (Of LockNode the stores that tell
// the thread ahead are left out.) What a load sees is what stands there.
func (w *watch) wantWaiting(t *testing.T, a api.Access, c api.Call) {
	t.Helper()
	if c.Op != api.OpAcquire || c.Point == none || a.Kind == api.AccessLoad {
		return
	}
	tells := a.Kind == api.AccessStore && (a.Addr == 3+2*a.Thread && a.New == 1 || a.New == uint64(a.Thread+1) && a.Addr%2 == 0)
	if w.c.Kind != api.LockNode || !tells {
		t.Fatalf("behind the point of %+v: %+v", c, a)
	}
	w.met["node tells"]++
}

// wantFirst is P24.5's second part, when an acquire has ended: nobody is left behind who was ahead.
func (w *watch) wantFirst(t *testing.T, c api.Call) {
	t.Helper()
	for thread := range w.c.Threads {
		other := w.last(thread)
		if !w.m.Busy(thread) || other.Op != api.OpAcquire || other.Point == none {
			continue
		}
		if ordered(w.c.Kind) && other.Point < c.Point || w.c.Kind == api.LockBakery && other.Point < c.Begin {
			t.Fatalf("behind move %d %+v has ended ahead of %+v", w.now(), c, other)
		}
		w.met[fmt.Sprint("waits while another gets in: ", w.c.Kind)]++
	}
}

func ordered(kind api.LockKind) bool {
	return kind == api.LockTicket || kind == api.LockQueue || kind == api.LockNode
}

// note counts what is rare.
func (w *watch) note(a api.Access) {
	c := w.last(a.Thread)
	if a.Kind == api.AccessSwap && a.Saw != a.Old {
		w.met[fmt.Sprint("swap fails: ", w.c.Kind, " ", c.Op)]++
	}
	if a.Kind == api.AccessLoad && c.End == none && c.Point != none {
		w.met[fmt.Sprint("waits: ", w.c.Kind)]++
	}
	if a.Kind == api.AccessLoad && c.Op == api.OpShare && int(a.Saw) < 0 {
		w.met["share waits"]++
	}
	if a.Kind == api.AccessLoad && w.c.Kind == api.LockFilter && a.Addr > w.c.Threads && int(a.Saw) != a.Thread {
		w.met["the victim is another"]++
	}
	if a.Kind == api.AccessLoad && w.c.Kind == api.LockBakery && a.Addr%2 == 1 && a.Saw != 0 {
		w.met["one is choosing"]++
	}
}

// rare is what is to be met.
func rare() []string {
	list := []string{
		"share waits", "the victim is another", "one is choosing", "node tells", "swap fails: 4 121", "swap fails: 7 122",
		"swap fails: 7 123",
	}
	for _, kind := range []api.LockKind{api.LockFlag, api.LockTicket, api.LockQueue, api.LockNode, api.LockShared} {
		list = append(list, fmt.Sprint("swap fails: ", kind, " ", api.OpAcquire))
	}
	for _, kind := range []api.LockKind{api.LockTicket, api.LockQueue, api.LockNode, api.LockBakery} {
		list = append(list, fmt.Sprint("waits: ", kind), fmt.Sprint("waits while another gets in: ", kind))
	}
	return list
}

// wantInOrder is P24.5's second part, of a whole run.
func wantInOrder(t *testing.T, c api.Locks, r api.Run) {
	t.Helper()
	acquires := slices.DeleteFunc(slices.Clone(r.Calls), func(c api.Call) bool { return c.Op != api.OpAcquire || c.Point == none })
	for _, one := range acquires {
		for _, other := range acquires {
			first := ordered(c.Kind) && one.Point < other.Point || c.Kind == api.LockBakery && one.Point < other.Begin
			if first && other.End != none && (one.End == none || other.End < one.End) {
				t.Fatalf("%+v has ended ahead of %+v", other, one)
			}
		}
	}
}

// wantPoints asks where points are: of acquires and shares that have ended, in the call; no others have any.
func wantPoints(t *testing.T, r api.Run) {
	t.Helper()
	for _, c := range r.Calls {
		mayHave := c.Op == api.OpAcquire || c.Op == api.OpShare
		late := c.End != none && c.Point > c.End
		if c.Point != none && (!mayHave || c.Point <= c.Begin || late) || mayHave && c.End != none && c.Point == none {
			t.Fatalf("the point of %+v", c)
		}
	}
}

// end lets all threads make steps, in turn, and release what they have, till all are outside.
func (w *watch) end(t *testing.T) {
	t.Helper()
	for count := 0; ; count++ {
		if count > 40000 {
			t.Fatal("the threads don't come out")
		}
		inside := 0
		for thread := range w.c.Threads {
			mv := step(thread)
			if !w.m.Busy(thread) {
				mv = w.exit(thread)
			}
			if mv.Thread != none {
				w.moveOn(t, mv)
				inside++
			}
		}
		if inside == 0 {
			return
		}
	}
}

// exit is the call by which a thread gives back what it has; of thread -1, if it has nothing.
func (w *watch) exit(thread int) api.Move {
	for _, c := range slices.Backward(w.run.Calls) {
		if c.Thread != thread || c.Op == api.OpTouch {
			continue
		}
		switch c.Op {
		case api.OpAcquire:
			return release(thread)
		case api.OpShare:
			return unshare(thread)
		}
		break
	}
	return step(none)
}

// wantAllOut asks what is left where all threads are outside: words of a lock that nobody has, which all can get.
func (w *watch) wantAllOut(t *testing.T) {
	t.Helper()
	count := int(w.run.Words[0])
	for thread := range w.c.Threads {
		w.calls(t, acquire(thread), touch(thread), release(thread))
		if got := w.m.Run().Words[0]; got != uint64(count+thread+1) {
			t.Fatalf("the count is %d", got)
		}
	}
	w.wantHolds(t)
	stays, _ := locks.Stays(w.c, w.m.Run())
	for _, s := range stays {
		if s.To < s.From {
			t.Fatalf("%+v, though all are outside", s)
		}
	}
}

// P24.5's first, second and fourth part behind every move of many scripts, and when all threads have gone out.
func TestWhatRunsKeep(t *testing.T) {
	met := map[string]int{}
	eachChance(700, func(c api.Locks, moves []api.Move) {
		w := watchOf(t, c, met)
		for _, mv := range moves[:len(moves)/2] {
			w.move(t, mv)
		}
		wantInOrder(t, c, w.run)
		wantPoints(t, w.run)
		w.end(t)
		w.wantHolds(t)
		wantInOrder(t, c, w.run)
		wantPoints(t, w.run)
		w.wantAllOut(t)
	})
	wantMet(t, met, 30, rare()...)
}

// P24.5's first two parts of scripts as long as may be, of all kinds, with few threads and with the most.
func TestWhatLongRunsKeep(t *testing.T) {
	d := dice(9)
	for _, kind := range kinds() {
		for _, threads := range []int{2, 4, api.MaxThreads} {
			c := locksOf(threads, kind)
			r := playOf(t, c, chanceMoves(&d, c, api.MaxMoves)...)
			if so, e := locks.Holds(c, r); !so || e != api.OK {
				t.Fatalf("%+v: Holds = %v, %d", c, so, e)
			}
			wantPoints(t, r)
			r.Calls = r.Calls[:min(len(r.Calls), 2500)] // the beginning alone, since each two calls are held against one another
			wantInOrder(t, c, r)
			if stays, _ := locks.Stays(c, r); len(stays) < 40 {
				t.Errorf("%+v: %d stays", c, len(stays))
			}
		}
	}
}

// P24.5's parts in the meetings of two calls that are cut at their steps: thread 0 makes some steps of its calls,
// then thread 1 some of its own, then thread 0 again, and then both in turn.
func TestMeetingsOfTwo(t *testing.T) {
	met := map[string]int{}
	for _, c := range []api.Locks{
		locksOf(2, 1), locksOf(2, 2), locksOf(2, 3), locksOf(2, 4), locksOf(2, 5), locksOf(3, 5), locksOf(2, 6), locksOf(3, 6), locksOf(2, 7),
	} {
		for first := range 14 {
			for second := range 14 {
				for third := range 8 {
					w := watchOf(t, c, met)
					steps := []int{first, second, third}
					for i, count := range steps {
						for range count {
							w.moveOn(t, w.onward(i%2))
						}
					}
					w.wantHolds(t)
					w.end(t)
					w.wantHolds(t)
					wantInOrder(t, c, w.run)
					wantPoints(t, w.run)
				}
			}
		}
	}
	wantMet(t, met, 20, "the victim is another", "one is choosing", "node tells", "waits: 2", "waits: 3", "waits: 4", "waits: 6", "swap fails: 4 121")
}

// onward is what a thread does next that goes in and out: acquires, touches and releases.
func (w *watch) onward(thread int) api.Move {
	if w.m.Busy(thread) {
		return step(thread)
	}
	c, some := w.m.Call(thread)
	switch {
	case some && c.Op == api.OpAcquire:
		return touch(thread)
	case some && c.Op == api.OpTouch:
		return release(thread)
	}
	return acquire(thread)
}

// P24.5's third part: with all picked in turn all come through, within the rounds that are told, and the count is
// that of the touches.
func TestNobodyIsShutOut(t *testing.T) {
	for _, kind := range kinds() {
		for threads := 1; threads <= api.MaxThreads; threads++ {
			for _, times := range []int{1, 2, 3, 7, 40} {
				c := locksOf(threads, kind)
				if times*threads*threads > 300 && times > 1 {
					continue // more moves than a machine takes, some of them
				}
				inTurn(t, c, times, func(_, i int) int { return i })
				inTurn(t, c, times, func(_, i int) int { return threads - 1 - i })
				inTurn(t, c, times, func(round, i int) int { return (i*5 + round*3) % threads })
			}
		}
	}
}

// inTurn lets all threads go in and out so many times. In each round each that has something to do is picked once:
// which one as the ith of a round, thread tells (one that it tells a second time is left out, and one that it
// doesn't tell comes last).
func inTurn(t *testing.T, c api.Locks, times int, thread func(round, i int) int) {
	t.Helper()
	g := gateOf(t, c)
	calls := make([]int, c.Threads) // how many each has begun
	bound := c.Threads * times * (16*c.Threads*c.Threads + 64)
	round := 0
	for ; ; round++ {
		picked := map[int]bool{}
		var order []int
		for i := range 2 * c.Threads {
			next := i - c.Threads
			if i < c.Threads {
				next = thread(round, i)
			}
			if !picked[next] {
				picked[next] = true
				order = append(order, next)
			}
		}
		busy := 0
		for _, me := range order {
			if !g.m.Busy(me) && calls[me] == 3*times {
				continue
			}
			busy++
			if !g.m.Busy(me) {
				g.make(t, [](func(int) api.Move){acquire, touch, release}[calls[me]%3](me))
				calls[me]++
			}
			g.make(t, step(me))
		}
		if busy == 0 {
			break
		}
		if round >= bound {
			t.Fatalf("%+v, %d times each: not through within %d rounds", c, times, bound)
		}
	}
	r := g.m.Run()
	if int(r.Words[0]) != c.Threads*times || len(r.Calls) != 3*c.Threads*times {
		t.Fatalf("%+v, %d times each: the count is %d", c, times, r.Words[0])
	}
	g.wantHolds(t)
	wantInOrder(t, c, r)
}

// P24.5 of readers and writers: all are picked in turn, share or get in alone, and stay for a while.
func TestReadersAndWriters(t *testing.T) {
	met, d := map[string]int{}, dice(7)
	for threads := 1; threads <= 6; threads++ {
		w := watchOf(t, locksOf(threads, api.LockShared), met)
		for i := range 1500 {
			thread := i % threads
			mv := step(thread)
			if !w.m.Busy(thread) && d.below(4) == 0 {
				mv = w.exit(thread)
			}
			if mv.Thread == none {
				mv = []api.Move{share(thread), share(thread), acquire(thread)}[d.below(3)]
			}
			w.moveOn(t, mv)
			if i%50 == 0 {
				w.wantHolds(t)
			}
		}
		w.end(t)
		wantPoints(t, w.run)
		stays, _ := locks.Stays(w.c, w.run)
		together := 0
		for i, s := range stays {
			for _, other := range stays[i+1:] {
				if s.Shared && other.Shared && other.From <= s.To {
					together++
				}
			}
		}
		if threads > 1 && together < 5 {
			t.Errorf("%d threads: %d pairs share at one time", threads, together)
		}
		w.wantAllOut(t)
	}
	wantMet(t, met, 50, "share waits", "swap fails: 7 120", "swap fails: 7 122", "swap fails: 7 123")
}
