package split_test

import (
	"slices"
	"testing"

	"reclaim/api"
	"reclaim/split"
)

// watch holds a machine against P23.10 to P23.13 behind every move, and against what DOC.md says of slots.
type watch struct {
	*yard
	run     api.Run // as it was behind the last move
	states  []api.State
	holders []int
	caches  []int // of each thread, how many slots are in its cache
	busy    map[int]struct{}
	room    map[int]int // of each move, the slots that its thread could have taken
	met     map[string]int
}

func watchOf(t *testing.T, s api.Split, met map[string]int) *watch {
	y := yardOf(t, s)
	return &watch{
		yard: y, run: y.m.Run(), states: make([]api.State, s.Config.Slots), holders: make([]int, s.Config.Slots),
		caches: make([]int, s.Config.Threads), busy: map[int]struct{}{}, room: map[int]int{}, met: met,
	}
}

// move makes a move, and asks for all promises.
func (w *watch) move(t *testing.T, mv api.Move) {
	t.Helper()
	w.moveOn(t, mv)
	w.wantHolds(t)
	w.wantStretches(t)
	w.wantCount(t)
}

// moveOn makes a move, and asks what its access may be.
func (w *watch) moveOn(t *testing.T, mv api.Move) {
	t.Helper()
	ahead := w.run
	w.room[w.m.Moves()] = w.roomOf(mv.Thread)
	w.m.Move(mv)
	w.run = w.m.Run()
	if mv.Thread >= 0 && mv.Thread < w.s.Config.Threads {
		delete(w.busy, mv.Thread)
		if w.m.Busy(mv.Thread) {
			w.busy[mv.Thread] = struct{}{}
		}
	}
	made := w.run.Trace[len(ahead.Trace):]
	if len(made) > 1 {
		t.Fatalf("move %d makes the accesses %+v", w.now(), made)
	}
	// What is taken out of a cache may be so ahead of the access; all other local work is behind it.
	shifts := slices.Clone(w.run.Shifts[len(ahead.Shifts):])
	for len(shifts) > 0 && shifts[0].From == api.StateCached {
		w.shift(t, shifts[0])
		shifts = shifts[1:]
	}
	for _, a := range made {
		w.wantNothingMoves(t, a, ahead.Words)
		w.wantSizeDoubles(t, a, ahead.Words)
		w.note(a, ahead.Words)
	}
	for _, s := range shifts {
		w.shift(t, s)
	}
	w.wantHonest(t, mv.Thread)
}

// roomOf is how many slots a thread could take.
func (w *watch) roomOf(thread int) int {
	room := 0
	for slot, state := range w.states {
		if state == api.StateFree || state == api.StateCached && w.holders[slot] == thread {
			room++
		}
	}
	return room
}

func (w *watch) shift(t *testing.T, s api.Shift) {
	t.Helper()
	if w.states[s.Slot] != s.From {
		t.Fatalf("%+v of a slot in state %d", s, w.states[s.Slot])
	}
	w.states[s.Slot], w.holders[s.Slot] = s.To, s.Thread
	if op := w.last(s.Thread).Op; slices.Contains(ops, op) {
		w.count(s.From == api.StateCached, "a slot out of the cache")
		w.count(s.From == api.StateOwned && s.To != api.StateLinked, "a slot that is given back unused")
	}
}

func (w *watch) count(met bool, what string) {
	if met {
		w.met[what]++
	}
}

// slotAt is the slot whose word of a kind is at an address, where these begin at another one; -1: it is none.
func (w *watch) slotAt(addr, first int) int {
	if slot := addr - first; slot >= 0 && slot < w.s.Config.Slots {
		return slot
	}
	return -1
}

// writes tells whether an access has written its word.
func writes(a api.Access) bool {
	return a.Kind == api.AccessStore || a.Kind == api.AccessSwap && a.Saw == a.Old
}

// wantNothingMoves is P23.11's first part, and G2: no word of a slot is accessed that is free or cached, or another
// thread's own.
func (w *watch) wantNothingMoves(t *testing.T, a api.Access, ahead []uint64) {
	t.Helper()
	value, data, link := w.slotAt(a.Addr, valueAt(w.s, 0)), w.slotAt(a.Addr, dataAt(w.s, 0)), w.slotAt(a.Addr, linkAt(w.s, 0))
	slot := max(value, data, link)
	if slot < 0 {
		if a.Addr == rootAt && writes(a) {
			w.wantOneStep(t, a, ahead)
		}
		return
	}
	state := w.states[slot]
	switch {
	case state == api.StateFree || state == api.StateCached || state == api.StateOwned && w.holders[slot] != a.Thread:
		t.Fatalf("%+v of a slot in state %d with %d", a, state, w.holders[slot])
	case !writes(a):
	case link < 0 && (state != api.StateOwned || a.Kind != api.AccessStore):
		t.Fatalf("%+v of a slot in state %d", a, state)
	case link >= 0 && state == api.StateOwned:
	case link >= 0 && (state != api.StateLinked || a.Kind != api.AccessSwap):
		t.Fatalf("%+v of a slot in state %d", a, state)
	case link >= 0:
		w.wantOneStep(t, a, ahead)
	}
}

// wantOneStep asks that a swap of a link puts one slot in, takes out one that has a mark, or puts a mark there.
func (w *watch) wantOneStep(t *testing.T, a api.Access, ahead []uint64) {
	t.Helper()
	before, after := slotsOf(w.s, ahead), slotsOf(w.s, w.run.Words)
	switch {
	case a.New == a.Old|markBit && a.Old&markBit == 0 && slices.Equal(before, after):
		w.met["a mark"]++
	case len(after) == len(before)+1 && slices.Equal(before, without(after, slotIn(a.New))) && w.states[slotIn(a.New)] == api.StateOwned:
		w.met["a slot put in"]++
	case len(after) == len(before)-1 && slices.Equal(after, without(before, slotIn(a.Old))) && ahead[linkAt(w.s, slotIn(a.Old))]&markBit != 0:
		w.met["a slot taken out"]++
	default:
		t.Fatalf("%+v makes %v of %v", a, after, before)
	}
}

func without(slots []int, slot int) []int {
	return slices.DeleteFunc(slices.Clone(slots), func(x int) bool { return x == slot })
}

// wantSizeDoubles is P23.11's second part, and P23.13's: size only doubles, by a swap that writes nothing else; and a
// word Bucket that names a slot stays.
func (w *watch) wantSizeDoubles(t *testing.T, a api.Access, ahead []uint64) {
	t.Helper()
	before, after := ahead[sizeAt(w.s)], w.run.Words[sizeAt(w.s)]
	if before != after && (after != 2*before || a.Kind != api.AccessSwap) {
		t.Fatalf("%+v makes the size %d of %d", a, after, before)
	}
	for addr := range ahead {
		if addr != a.Addr && ahead[addr] != w.run.Words[addr] {
			t.Fatalf("%+v changes the word at %d", a, addr)
		}
	}
	for b := range w.s.Config.Buckets {
		if before := ahead[bucketAt(b)]; before != 0 && w.run.Words[bucketAt(b)] != before {
			t.Fatalf("%+v changes the word of bucket %d", a, b)
		}
	}
}

// wantStretches is P23.12, by the list's places alone.
func (w *watch) wantStretches(t *testing.T) {
	t.Helper()
	var keys []int // that have come so far along the list, marked ones too
	for _, slot := range slotsOf(w.s, w.run.Words) {
		place := w.run.Words[valueAt(w.s, slot)]
		if key, e := split.Key(int(place)); e == api.OK {
			keys = append(keys, key)
			continue
		}
		b := slices.IndexFunc(allBuckets(w.s), func(b int) bool { return bucketPlace(b) == place })
		if b < 1 {
			t.Fatalf("slot %d of the list has the place %d", slot, place)
		}
		for size := 1; size <= 1<<20; size *= 2 {
			if size > b && slices.ContainsFunc(keys, func(key int) bool { return key%size == b }) {
				t.Fatalf("behind %v, with %d buckets: bucket %d", keys, size, b)
			}
		}
		w.met["a bucket in its place"]++
	}
}

func allBuckets(s api.Split) []int {
	list := make([]int, s.Config.Buckets)
	for b := range list {
		list[b] = b
	}
	return list
}

// wantCount is P23.13's first part.
func (w *watch) wantCount(t *testing.T) {
	t.Helper()
	if len(w.busy) > 0 {
		return
	}
	pairs, e := split.Look(w.s, w.run.Words)
	if e != api.OK || int(w.run.Words[countAt(w.s)]) != len(pairs) {
		t.Fatalf("behind move %d count is %d, the keys are %v", w.now(), int(w.run.Words[countAt(w.s)]), pairs)
	}
	w.met["rest"]++
	w.count(len(pairs) > 2, "rest with keys")
}

// wantHonest is G4, of a call that has just ended; and notes how.
func (w *watch) wantHonest(t *testing.T, thread int) {
	t.Helper()
	call, known := w.m.Call(thread)
	if !known || call.End != w.now() || !slices.Contains(ops, call.Op) {
		return
	}
	if call.Answer == full && w.room[call.Point] > 0 {
		t.Fatalf("%+v, but there was room", call)
	}
	name := map[api.Op]string{api.OpAdd: "an add", api.OpGet: "a get", api.OpRemove: "a remove"}[call.Op]
	how := map[api.AnswerKind]string{api.AnswerYes: " yes", api.AnswerNo: " no", api.AnswerFull: " full", api.AnswerValue: " a value"}[call.Answer.Kind]
	w.met[name+how]++
}

// note counts what is rare.
func (w *watch) note(a api.Access, ahead []uint64) {
	if !slices.Contains(ops, w.last(a.Thread).Op) {
		return
	}
	late := a.Kind == api.AccessSwap && a.Saw != a.Old
	ofLink := w.slotAt(a.Addr, linkAt(w.s, 0)) >= 0 || a.Addr == rootAt
	bucket := a.Addr - bucketAt(0)
	switch {
	case a.Addr == sizeAt(w.s) && a.Kind == api.AccessSwap:
		w.count(late, "a doubling that another has made")
		w.count(!late, "a doubling")
	case a.Addr == countAt(w.s):
		w.count(late, "a swap of count that fails")
		w.count(int(w.run.Words[a.Addr]) < 0, "a count below 0")
	case bucket > 0 && bucket < w.s.Config.Buckets && a.Kind == api.AccessSwap:
		w.count(late, "a bucket that another has named")
		w.count(!late, "a bucket named")
	case late && ofLink && a.New&markBit != 0:
		w.met["a mark too late"]++
	case late && ofLink && slotIn(a.New) >= 0 && w.states[slotIn(a.New)] == api.StateOwned:
		place := ahead[valueAt(w.s, slotIn(a.New))]
		w.count(place%2 == 0, "a bucket's swap that fails")
		w.count(place%2 != 0, "an add's swap that fails")
	case late && ofLink:
		w.met["a swap out that fails"]++
	case a.Addr == freeAt && a.Kind == api.AccessLoad && a.Saw&(1<<32-1) == 0:
		w.met["a take that finds none"]++
	}
}

// P23.10 to P23.13 behind every move of many scripts.
func TestWhatRunsKeep(t *testing.T) {
	met := map[string]int{}
	eachChance(t, 350, func(s api.Split, moves []api.Move) {
		w := watchOf(t, s, met)
		for _, mv := range moves {
			w.move(t, mv)
		}
		w.end(t)
	})
	wantMet(t, met, 10,
		"a mark", "a slot put in", "a slot taken out", "a bucket in its place", "rest", "rest with keys",
		"an add yes", "an add no", "an add full", "a get a value", "a get no", "a remove a value", "a remove no",
		"a doubling", "a swap of count that fails", "a bucket named", "a bucket that another has named", "a mark too late",
		"a bucket's swap that fails", "an add's swap that fails", "a swap out that fails", "a take that finds none",
		"a slot out of the cache", "a slot that is given back unused")
	wantMet(t, met, 1, "a doubling that another has made", "a count below 0")
}

func wantMet(t *testing.T, met map[string]int, least int, what ...string) {
	t.Helper()
	for _, x := range what {
		if met[x] < least {
			t.Errorf("%s: met %d times", x, met[x])
		}
	}
}

// end lets all threads make steps, in turn, till none is busy.
func (w *watch) end(t *testing.T) {
	t.Helper()
	for count := 0; len(w.busy) > 0; count++ {
		if count > 20000 {
			t.Fatal("the calls don't come to an end")
		}
		for thread := range w.s.Config.Threads {
			if w.m.Busy(thread) {
				w.moveOn(t, step(thread))
			}
		}
	}
	w.wantHolds(t)
	w.wantCount(t)
}

// P23.10 to P23.13 of scripts of many threads, few slots and many moves, held against them at times.
func TestWhatLongRunsKeep(t *testing.T) {
	d := dice(9)
	for _, s := range []api.Split{
		splitOf(api.MaxThreads, 2, 0, 24, 8, 1), splitOf(3, 1, 1, 10, 16, 1), splitOf(6, 4, 2, 60, 64, 1), splitOf(2, 1, 0, 5, 3, 2), splitOf(1, 1, 0, 4, 2, 1),
	} {
		moves := chanceOf(t, &d, s).moves(30000)
		y := yardOf(t, s)
		size := uint64(1)
		for i, mv := range moves {
			y.m.Move(mv)
			if i%997 == 0 || i == len(moves)-1 {
				y.wantHolds(t)
				if n := y.word(sizeAt(s)); n < size {
					t.Fatalf("the size is %d behind %d", n, size)
				} else {
					size = n
				}
			}
		}
	}
}

// all three calls, of a thread and a key.
func threeCalls(data int) []func(thread, key int) api.Move {
	return []func(thread, key int) api.Move{func(thread, key int) api.Move { return add(thread, key, data+key) }, get, remove}
}

// P23.10 to P23.13 of three calls of two threads, that meet where buckets are planted and the table is doubled: the
// first one is cut at each of its steps, the second one is made up to a step of its own there, the first one goes on
// to its end, a third one follows, and then the second one goes on.
func TestCutCalls(t *testing.T) {
	met := map[string]int{}
	calls := threeCalls(100)
	for _, held := range [][]int{nil, {1}, {1, 2}} {
		for kind := range 9 {
			for _, key := range []int{1, 3} {
				for cut := range 45 {
					for other := cut % 11; other < 45; other += 11 {
						w := watchOf(t, splitOf(2, 1, 0, 6, 4, 1), met)
						for _, mv := range []api.Move{register(0), register(1)} {
							w.whole(t, mv)
						}
						for _, key := range held {
							w.whole(t, add(0, key, 10*key))
						}
						w.moveOn(t, calls[kind%3](0, 1))
						w.times(t, 0, cut)
						w.moveOn(t, calls[kind/3](1, key))
						w.times(t, 1, other)
						w.wantHolds(t)
						w.times(t, 0, 200)
						w.wantHolds(t)
						w.moveOn(t, calls[(kind+cut)%3](0, key))
						w.times(t, 0, 1+other)
						w.times(t, 1, 200)
						w.wantHolds(t)
						w.times(t, 0, 200)
						w.wantHolds(t)
						w.wantStretches(t)
						w.wantCount(t)
					}
				}
			}
		}
	}
	wantMet(t, met, 20, "a doubling", "a swap of count that fails", "a bucket that another has named", "a mark too late",
		"a bucket's swap that fails", "an add's swap that fails", "a swap out that fails", "a slot that is given back unused")
}

// whole makes a call to its end.
func (w *watch) whole(t *testing.T, mv api.Move) {
	t.Helper()
	w.moveOn(t, mv)
	w.times(t, mv.Thread, 300)
	if w.m.Busy(mv.Thread) {
		t.Fatalf("%+v doesn't come to an end", mv)
	}
}

// times lets a thread make so many steps, or fewer if its call ends.
func (w *watch) times(t *testing.T, thread, count int) {
	t.Helper()
	for range count {
		if !w.m.Busy(thread) {
			return
		}
		w.moveOn(t, step(thread))
	}
}

// P23.10: where each call is made to its end ahead of the next one, a table answers as a table does, whatever it
// has been doubled and planted to.
func TestCallsOneByOne(t *testing.T) {
	d := dice(13)
	for range 60 {
		s := splitOf(1, 1+d.below(3), d.below(3), 40+d.below(60), 1+d.below(64), 1+d.below(3))
		y := filled(t, s)
		keys := map[int]int{}
		for i := range 150 {
			key := d.below(40) << d.below(25)
			data, there := keys[key]
			switch {
			case d.below(3) == 0 && there:
				y.calls(t, value(data), remove(0, key))
				delete(keys, key)
			case d.below(2) == 0 && there:
				y.calls(t, value(data), get(0, key))
				y.calls(t, no, add(0, key, -i))
			case there:
			case d.below(3) == 0:
				y.calls(t, no, get(0, key), remove(0, key))
			default:
				if answer := y.call(t, add(0, key, i)).Answer; answer == yes {
					keys[key] = i
				} else if answer != full {
					t.Fatalf("%+v", answer)
				}
			}
		}
		pairs, _ := split.Look(s, y.m.Run().Words)
		if len(pairs) != len(keys) || int(y.word(countAt(s))) != len(keys) {
			t.Fatalf("the keys are %v, not %v", pairs, keys)
		}
		for _, x := range pairs {
			if data, there := keys[x.Key]; !there || data != x.Value {
				t.Fatalf("the keys are %v, not %v", pairs, keys)
			}
		}
		y.wantHolds(t)
	}
}
