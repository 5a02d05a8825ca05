package list_test

import (
	"cmp"
	"slices"
	"testing"

	"reclaim/api"
)

// dice are the same numbers each time.
type dice uint64

func (d *dice) below(n int) int {
	*d = *d*6364136223846793005 + 1442695040888963407
	return int(uint64(*d) >> 33 % uint64(n))
}

// chance makes moves of the list's calls, of those of hazard, and others. It plays them as it goes, so that
// it knows when to leave a thread's call half done, for others to come by.
type chance struct {
	*dice
	*yard
	stays []int // of each thread, the move up to which it makes no step
	puts  int   // how many of 40 calls are inserts
	keys  int   // the fewer there are the more calls meet at one
}

func (c *chance) moves(t *testing.T, count int) []api.Move {
	t.Helper()
	var moves []api.Move
	for thread := range c.c.Threads {
		moves = append(moves, with(register(thread), 2*c.c.Records)...)
	}
	for _, mv := range moves {
		c.m.Move(mv)
	}
	for len(moves) < count {
		mv := c.next()
		moves = append(moves, mv)
		if c.m.Move(mv); mv.Thread >= 0 && mv.Thread < c.c.Threads {
			c.stay(mv.Thread, len(moves))
		}
	}
	return moves
}

// next is a step of a busy thread and a call of an idle one, mostly.
func (c *chance) next() api.Move {
	thread := c.below(c.c.Threads)
	for range 5 {
		if c.stays[thread] > c.m.Moves() {
			thread = c.below(c.c.Threads)
		}
	}
	switch roll := c.below(50); {
	case roll == 0:
		return c.begin(c.c.Threads - (c.c.Threads+1)*c.below(2))
	case c.m.Busy(thread) == (roll < 47):
		return step(thread)
	}
	return c.begin(thread)
}

func (c *chance) begin(thread int) api.Move {
	key := c.below(c.keys) - 3
	switch roll := c.below(40); {
	case roll < c.puts:
		return insert(thread, key)
	case roll < 27:
		return remove(thread, key)
	case roll < 33:
		return contains(thread, key)
	case roll == 33:
		return post(thread, c.below(9))
	case roll < 35:
		return read(thread, c.below(c.c.Hazards+2)-1)
	case roll < 37:
		return clearing(thread, c.below(c.c.Hazards+2)-1)
	case roll == 37:
		return scan(thread)
	case roll == 38 && c.below(3) == 0:
		return unregister(thread)
	}
	return register(thread)
}

// stay lets a thread wait, if it has just put a mark, and now and then.
func (c *chance) stay(thread, now int) {
	call, _ := c.m.Call(thread)
	marks := call.Op == api.OpDelete && call.Point == now-1
	if marks && c.below(3) > 0 || c.below(30) == 0 {
		c.stays[thread] = now + c.below(60)
	}
}

// eachChance goes through scripts over lists of many sizes.
func eachChance(t *testing.T, count int, do func(c api.Config, moves []api.Move)) {
	t.Helper()
	d := dice(17)
	for range count {
		c := configOf(1+d.below(4), 1+d.below(4), 1+d.below(4), d.below(3), 1+d.below(9))
		c.Buckets, c.Hazards = 1+d.below(3), 3+d.below(2)
		by := &chance{&d, yardOf(t, c), make([]int, c.Threads), 9 + d.below(10), 1 + d.below(6)}
		do(c, by.moves(t, d.below(900)))
	}
}

// watch holds a yard against P8.9 to P8.11 behind every move.
type watch struct {
	*yard
	run   api.Run              // as it is
	made  map[int]struct{}     // the calls, by their numbers, that have made I4 or D1
	ahead map[int][]api.Access // of each thread, the accesses of its call
	room  map[int]int          // of each move, the slots that its thread could have taken
	met   map[string]int
}

func watchOf(t *testing.T, c api.Config, met map[string]int) *watch {
	y := yardOf(t, c)
	return &watch{yard: y, run: y.m.Run(), made: map[int]struct{}{}, ahead: map[int][]api.Access{}, room: map[int]int{}, met: met}
}

// move makes a move, and asks for all promises.
func (w *watch) move(t *testing.T, mv api.Move) {
	t.Helper()
	before := w.run
	w.room[w.m.Moves()] = w.a.Count(api.StateFree) + len(w.a.Cached(mv.Thread))
	if w.m.Move(mv) && mv.Op != api.OpStep {
		w.ahead[mv.Thread] = nil
	}
	w.run = w.m.Run()
	for _, a := range w.run.Trace[len(before.Trace):] {
		w.note(t, a)
		w.wantThere(t, a)
		w.wantMarksStand(t, before.Words, a)
		w.ahead[a.Thread] = append(w.ahead[a.Thread], a)
	}
	for _, s := range w.run.Shifts[len(before.Shifts):] {
		w.wantShift(t, before.Words, s)
	}
	w.wantSet(t)
	w.wantShape(t)
	w.noteEnd(t, mv.Thread)
}

// callOf is the number of a thread's last call.
func (w *watch) callOf(thread int) int {
	for number, call := range slices.Backward(w.run.Calls) {
		if call.Thread == thread {
			return number
		}
	}
	return -1
}

// slotAt is the slot whose word of a region is at an address; -1: it is none of these.
func (w *watch) slotAt(r api.Region, addr int) int {
	if slot := addr - w.addr(r, 0, 0); slot >= 0 && slot < w.c.Slots {
		return slot
	}
	return -1
}

// succeeds tells whether an access is a swap that succeeds.
func succeeds(a api.Access) bool { return a.Kind == api.AccessSwap && a.Saw == a.Old }

// note notes which calls have made I4 or D1, and what accesses have met: by what came ahead of them in
// the same call one knows which line they are of.
func (w *watch) note(t *testing.T, a api.Access) {
	t.Helper()
	number := w.callOf(a.Thread)
	call := w.run.Calls[number]
	ahead := w.ahead[a.Thread]
	ofScan := a.Addr == freeAddr || a.Addr >= w.addr(api.RegionActive, 0, 0) && a.Addr < w.valueAt(0)
	if !slices.Contains(ops, call.Op) || len(ahead) == 0 || a.Kind == api.AccessStore || ofScan {
		return
	}
	of := map[api.Op]string{api.OpInsert: "an insert", api.OpDelete: "a delete", api.OpContains: "a contains"}[call.Op]
	how := map[bool]string{true: "", false: " too late"}[a.Saw == a.Old]
	last := ahead[len(ahead)-1]
	switch {
	case a.Kind == api.AccessLoad && last.Kind == api.AccessStore && last.Addr == w.Addr(a.Thread, 1) && a.Addr == rootAddr:
		w.count(a.Saw != last.New, "F3 of a word that has changed")
	case a.Kind == api.AccessLoad && last.Kind == api.AccessStore && last.Addr == w.Addr(a.Thread, 0):
		w.count(a.Saw != ahead[len(ahead)-2].Saw, "F6 of a link that has changed")
	case a.Kind == api.AccessLoad && w.slotAt(api.RegionValue, last.Addr) >= 0:
		w.count(a.Saw != link(w.slotAt(api.RegionValue, last.Addr)), "F8 of a word that has changed")
	case a.Kind == api.AccessLoad:
	case a.New&markBit != 0:
		w.met["D1"+how]++
		w.makes(t, number, a)
	case last.New&markBit != 0 && succeeds(last):
		w.met["D2"+how]++
	case last.Kind == api.AccessStore:
		w.met["I4"+how]++
		w.makes(t, number, a)
	default:
		w.met["F11 of "+of+how]++
		w.count(succeeds(a) && a.New == 0, "F11 with no slot behind")
		w.count(succeeds(a) && a.New != 0, "F11 with a slot behind")
	}
}

func (w *watch) count(met bool, what string) {
	if met {
		w.met[what]++
	}
}

// makes notes that a call has made its swap: that is its point, from this move on.
func (w *watch) makes(t *testing.T, number int, a api.Access) {
	t.Helper()
	if !succeeds(a) {
		return
	}
	w.made[number] = struct{}{}
	if call := w.run.Calls[number]; call.Point != a.Move {
		t.Fatalf("%+v, but the point of %+v is another", a, call)
	}
}

// wantThere is G2 of an access: a slot whose value, data or link is loaded or written is neither free nor
// in a cache, and if it is owned it is the thread's.
func (w *watch) wantThere(t *testing.T, a api.Access) {
	t.Helper()
	for _, r := range []api.Region{api.RegionValue, api.RegionData, api.RegionLink} {
		slot := w.slotAt(r, a.Addr)
		if slot < 0 {
			continue
		}
		// Only I4 changes the state of a slot that it accesses itself no more.
		state, holder, _ := w.a.State(slot)
		if state == api.StateFree || state == api.StateCached || state == api.StateOwned && holder != a.Thread {
			t.Fatalf("%+v, of slot %d in state %d with %d", a, slot, state, holder)
		}
	}
}

// wantMarksStand is P8.11 of a write: a link with a mark is written by the thread alone that has taken the
// slot anew. The root is never marked.
func (w *watch) wantMarksStand(t *testing.T, words []uint64, a api.Access) {
	t.Helper()
	slot := w.slotAt(api.RegionLink, a.Addr)
	if a.Kind == api.AccessLoad || a.Kind == api.AccessSwap && !succeeds(a) || slot < 0 || words[a.Addr]&markBit == 0 {
		return
	}
	if state, holder, _ := w.a.State(slot); state != api.StateOwned || holder != a.Thread {
		t.Fatalf("%+v writes the marked link of slot %d in state %d", a, slot, state)
	}
}

// wantShift is P8.11 of a shift: a slot goes to Detached out of Linked, with a mark, in the move in which it
// leaves the list; to Linked in the move in which it comes into it.
func (w *watch) wantShift(t *testing.T, words []uint64, s api.Shift) {
	t.Helper()
	op := w.run.Calls[w.callOf(s.Thread)].Op
	if s.From == api.StateCached && op == api.OpInsert {
		w.met["an insert out of the cache"]++
	}
	if s.From == api.StateOwned && s.To != api.StateLinked {
		w.met["an insert that gives its slot back"]++
	}
	if !slices.Contains(ops, op) || s.To != api.StateDetached && s.To != api.StateLinked {
		return
	}
	before, after := slices.Contains(slotsOf(w.c, words), s.Slot), slices.Contains(slotsOf(w.c, w.run.Words), s.Slot)
	switch {
	case s.To == api.StateLinked && s.From == api.StateOwned && !before && after:
	case s.To == api.StateDetached && s.From == api.StateLinked && before && !after && words[w.linkAt(s.Slot)]&markBit != 0:
	default:
		t.Fatalf("%+v, in the list ahead: %v, behind: %v", s, before, after)
	}
}

// wantSet is P8.9, that each point lies within its call's time and is no other's, and that the words hold
// what the calls leave.
func (w *watch) wantSet(t *testing.T) {
	t.Helper()
	set := map[int]struct{}{}
	last := -1
	for _, number := range w.pointed(t) {
		c := w.run.Calls[number]
		_, made := w.made[number]
		_, there := set[c.Arg]
		if c.Point == last {
			t.Fatalf("two calls have the point %d", last)
		}
		last = c.Point
		want := no
		switch {
		case c.Op == api.OpInsert && !there:
			want = yes
			set[c.Arg] = struct{}{}
		case c.Op == api.OpDelete && there:
			want = yes
			delete(set, c.Arg)
		case c.Op == api.OpContains && there:
			want = yes
		}
		if does := want == yes && c.Op != api.OpContains; made != does || c.End >= 0 && c.Answer != want {
			t.Fatalf("%+v, made its swap: %v, not %+v; the keys are %v", c, made, want, set)
		}
	}
	var left []int
	for key := range set {
		left = append(left, key)
	}
	slices.Sort(left)
	if got := keysOf(w.c, w.run.Words); !slices.Equal(got, left) {
		t.Fatalf("the words have %v, the calls leave %v", got, left)
	}
}

// pointed are the numbers of the list's calls that have a point and did not answer Full, in the order of
// their points. A call that has not ended has none, if it will answer Full.
func (w *watch) pointed(t *testing.T) []int {
	t.Helper()
	var numbers []int
	for number, c := range w.run.Calls {
		switch {
		case !slices.Contains(ops, c.Op), c.Point < 0 && c.End < 0:
		case c.Point <= c.Begin, c.End >= 0 && c.Point > c.End, c.End >= 0 && c.Answer == api.Answer{}:
			t.Fatalf("%+v", c)
		case c.Answer != full:
			numbers = append(numbers, number)
		}
	}
	slices.SortFunc(numbers, func(a, b int) int { return cmp.Compare(w.run.Calls[a].Point, w.run.Calls[b].Point) })
	return numbers
}

// wantShape is P8.10, and that the list's slots and the cell's are those that are linked.
func (w *watch) wantShape(t *testing.T) {
	t.Helper()
	words := w.run.Words
	row := slotsOf(w.c, words)
	for i := range row {
		if i > 0 && int(words[w.valueAt(row[i-1])]) >= int(words[w.valueAt(row[i])]) {
			t.Fatalf("the keys of the slots %v don't rise", row)
		}
	}
	if words[rootAddr]&markBit != 0 {
		t.Fatalf("the root is %x", words[rootAddr])
	}
	if cell := int(words[1]) - 1; cell >= 0 {
		row = append(row, cell)
	}
	var linked []int
	for slot := range w.c.Slots {
		if state, _, _ := w.a.State(slot); state == api.StateLinked {
			linked = append(linked, slot)
		}
	}
	slices.Sort(row)
	if !slices.Equal(row, linked) {
		t.Fatalf("the slots of the list and the cell are %v, linked are %v", row, linked)
	}
}

// noteEnd notes how a call has ended; of an insert that found no slot it asks for G4.
func (w *watch) noteEnd(t *testing.T, thread int) {
	t.Helper()
	call, known := w.m.Call(thread)
	switch {
	case !known || call.End != w.m.Moves()-1 || !slices.Contains(ops, call.Op):
	case call.Answer == full:
		w.met["an insert that finds no slot"]++
		if w.room[call.Point] > 0 {
			t.Fatalf("%+v, but there was room", call)
		}
	case call.Op == api.OpContains && call.Answer == yes:
		w.met["a contains that finds its key"]++
	case call.Op == api.OpContains:
		w.met["a contains that finds none"]++
	}
}

// P8.9 to P8.11: behind every move of chance scripts, which meet all that there is to meet.
func TestRules(t *testing.T) {
	met := map[string]int{}
	eachChance(t, 700, func(c api.Config, moves []api.Move) {
		w := watchOf(t, c, met)
		for _, mv := range moves {
			w.move(t, mv)
		}
	})
	for _, what := range []string{
		"F3 of a word that has changed", "F6 of a link that has changed", "F8 of a word that has changed",
		"F11 of an insert", "F11 of an insert too late", "F11 of a delete", "F11 of a delete too late", "F11 of a contains", "F11 of a contains too late",
		"F11 with no slot behind", "F11 with a slot behind", "D1", "D1 too late", "D2", "D2 too late", "I4", "I4 too late",
		"an insert out of the cache", "an insert that gives its slot back", "an insert that finds no slot",
		"a contains that finds its key", "a contains that finds none",
	} {
		if met[what] == 0 {
			t.Errorf("no script comes to %s", what)
		}
		delete(met, what)
	}
	if len(met) > 0 {
		t.Errorf("there are %v too", met)
	}
}

// P8.9 to P8.11: likewise of three calls of two threads, over lists of up to two keys: the first one is cut
// at each of its steps, the second one is made whole there, and the third one is cut by the rest of the
// first.
func TestRulesOfCutCalls(t *testing.T) {
	calls := []func(thread, key int) api.Move{insert, remove, contains}
	for _, held := range [][]int{nil, {5}, {4, 5}} {
		for kind := range 27 {
			for _, key := range []int{4, 5} {
				for cut := range 21 {
					for other := 1; other < 21; other += 5 {
						w := watchOf(t, configOf(2, 2, 1, 0, 4), map[string]int{})
						w.calls(t, register(0), register(1))
						w.run = w.m.Run()
						for _, key := range held {
							w.whole(t, insert(0, key))
						}
						w.move(t, calls[kind%3](0, 5))
						w.times(t, 0, cut)
						w.whole(t, calls[kind/3%3](1, key))
						w.move(t, calls[kind/9](1, 5))
						w.times(t, 1, other)
						w.times(t, 0, 90)
						w.times(t, 1, 90)
					}
				}
			}
		}
	}
}

// whole makes a call to its end.
func (w *watch) whole(t *testing.T, mv api.Move) {
	t.Helper()
	w.move(t, mv)
	w.times(t, mv.Thread, 90)
	if w.m.Busy(mv.Thread) {
		t.Fatalf("%+v doesn't come to an end", mv)
	}
}

// times lets a thread make so many steps, or fewer if its call ends.
func (w *watch) times(t *testing.T, thread, count int) {
	t.Helper()
	for range count {
		if !w.m.Busy(thread) {
			return
		}
		w.move(t, step(thread))
	}
}
