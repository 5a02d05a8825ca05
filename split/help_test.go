package split_test

import (
	"math/bits"
	"slices"
	"testing"

	"reclaim/api"
	"reclaim/machine"
	"reclaim/split"
)

// splitOf is a table of threads that have a record each, with three hazards.
func splitOf(threads, retire, cache, slots, buckets, load int) api.Split {
	return api.Split{
		Config: api.Config{Threads: threads, Records: threads, Hazards: 3, Retire: retire, Cache: cache, Slots: slots, Buckets: buckets},
		Load:   load,
	}
}

// example is the chapter's table.
func example() api.Split { return splitOf(1, 1, 0, 8, 4, 1) }

// pair is a table of two threads in which nothing is scanned ahead of nine retired slots.
func pair(slots, buckets, load int) api.Split { return splitOf(2, 9, 0, slots, buckets, load) }

// Addresses, told by the chapters' words.

const (
	freeAt = 0
	cellAt = 1
	rootAt = 5
)

func bucketAt(bucket int) int { return 6 + bucket }

func activeAt(s api.Split, record int) int { return 6 + s.Config.Buckets + record }

func hazardAt(s api.Split, record, k int) int {
	return activeAt(s, s.Config.Records) + record*s.Config.Hazards + k
}

func spareAt(s api.Split, slot int) int { return hazardAt(s, s.Config.Records, 0) + slot }

func valueAt(s api.Split, slot int) int { return spareAt(s, s.Config.Slots) + slot }

func dataAt(s api.Split, slot int) int { return valueAt(s, s.Config.Slots) + slot }

func linkAt(s api.Split, slot int) int { return dataAt(s, s.Config.Slots) + slot }

func countAt(s api.Split) int { return linkAt(s, s.Config.Slots) }

func sizeAt(s api.Split) int { return countAt(s) + 1 }

// keyAt and bucketPlace are places, told by another way of turning bits round.

func keyAt(key int) uint64 { return uint64(bits.Reverse32(uint32(key)))>>2*2 + 1 }

func bucketPlace(bucket int) uint64 { return uint64(bits.Reverse32(uint32(bucket))) >> 2 * 2 }

// yard is a machine.
type yard struct {
	s api.Split
	m *machine.Machine
}

func yardOf(t *testing.T, s api.Split) *yard {
	t.Helper()
	m, e := split.New(s)
	if e != api.OK {
		t.Fatalf("New(%+v) = %d", s, e)
	}
	return &yard{s: s, m: m}
}

// filled is a machine whose threads hold the records of their numbers, and which thread 0 has put keys into:
// each with ten times itself.
func filled(t *testing.T, s api.Split, keys ...int) *yard {
	t.Helper()
	y := yardOf(t, s)
	for thread := range s.Config.Threads {
		y.calls(t, value(thread), register(thread))
	}
	y.adds(t, keys...)
	return y
}

// grown is a machine whose table is empty, with a size that it has come to by keys of bucket 0 alone: so no
// bucket is planted.
func grown(t *testing.T, s api.Split, size uint64) *yard {
	t.Helper()
	y := filled(t, s)
	var keys []int
	for i := 0; y.word(sizeAt(s)) < size; i++ {
		keys = append(keys, i*api.MaxBuckets)
		y.adds(t, i*api.MaxBuckets)
	}
	for _, key := range keys {
		y.calls(t, value(10*key), remove(0, key))
	}
	y.calls(t, done, api.Move{Op: api.OpScan})
	y.wantSizes(t, 0, size)
	y.wantSlots(t)
	return y
}

func (y *yard) adds(t *testing.T, keys ...int) {
	t.Helper()
	for _, key := range keys {
		y.calls(t, yes, add(0, key, 10*key))
	}
}

// make makes moves, each of which does something.
func (y *yard) make(t *testing.T, moves ...api.Move) {
	t.Helper()
	for _, mv := range moves {
		if !y.m.Move(mv) {
			t.Fatalf("move %d, %+v, does nothing", y.now(), mv)
		}
	}
}

func (y *yard) steps(t *testing.T, thread, count int) {
	t.Helper()
	y.make(t, slices.Repeat([]api.Move{step(thread)}, count)...)
}

// finish lets a thread make steps till its call has ended.
func (y *yard) finish(t *testing.T, thread int) {
	t.Helper()
	for count := 0; y.m.Busy(thread); count++ {
		if count > 20000 {
			t.Fatalf("thread %d doesn't come to an end", thread)
		}
		y.steps(t, thread, 1)
	}
}

// call begins a call, lets the thread come to its end alone, and tells what it came to.
func (y *yard) call(t *testing.T, mv api.Move) api.Call {
	t.Helper()
	y.make(t, mv)
	y.finish(t, mv.Thread)
	return y.last(mv.Thread)
}

// calls makes calls one after the other, each to its end, and asks that each answers so.
func (y *yard) calls(t *testing.T, want api.Answer, moves ...api.Move) {
	t.Helper()
	for _, mv := range moves {
		if c := y.call(t, mv); c.Answer != want {
			t.Fatalf("%+v, not %+v", c, want)
		}
	}
}

func (y *yard) last(thread int) api.Call {
	c, _ := y.m.Call(thread)
	return c
}

func (y *yard) word(addr int) uint64 { return y.m.Run().Words[addr] }

// now is the number of the last move.
func (y *yard) now() int { return y.m.Moves() - 1 }

// tells makes a call that a thread makes alone, with these accesses, one a step; point is the number of the
// access that is its point, from 0 on.
func (y *yard) tells(t *testing.T, mv api.Move, answer api.Answer, point int, accesses ...api.Access) {
	t.Helper()
	y.make(t, mv)
	begin := y.now()
	y.goes(t, accesses...)
	y.ended(t, mv.Thread, answer, begin+1+point)
}

// goes lets threads make a step for each of these accesses, and asks that they make just these.
func (y *yard) goes(t *testing.T, accesses ...api.Access) {
	t.Helper()
	for number, want := range accesses {
		ahead := len(y.m.Run().Trace)
		y.steps(t, want.Thread, 1)
		want.Move = y.now()
		if got := y.m.Run().Trace[ahead:]; len(got) != 1 || got[0] != want {
			t.Fatalf("access %d is %+v, not %+v", number, got, want)
		}
	}
}

// goesTo lets a thread make steps till its next access is one to an address, which it tells by a machine of
// its own.
func (y *yard) goesTo(t *testing.T, thread int, kind api.AccessKind, addr int) {
	t.Helper()
	for range 500 {
		next := y.next(t, thread)
		if next.Kind == kind && next.Addr == addr {
			return
		}
		y.steps(t, thread, 1)
	}
	t.Fatalf("thread %d doesn't come to address %d", thread, addr)
}

// next is the access that a thread makes next.
func (y *yard) next(t *testing.T, thread int) api.Access {
	t.Helper()
	moves := movesOf(y.m.Run(), y.m.Moves())
	r := playOf(t, y.s, append(moves, step(thread))...)
	return r.Trace[len(r.Trace)-1]
}

// movesOf is a script of so many moves that has a run: what begins calls, and the steps.
func movesOf(r api.Run, count int) []api.Move {
	moves := slices.Repeat([]api.Move{step(-1)}, count)
	for _, c := range r.Calls {
		moves[c.Begin] = api.Move{Thread: c.Thread, Op: c.Op, Arg: c.Arg, Data: c.Data}
		if c.End >= 0 {
			moves[c.End] = step(c.Thread)
		}
	}
	for _, a := range r.Trace {
		moves[a.Move] = step(a.Thread)
	}
	return moves
}

// ended asks that a thread's call has ended in the last move, with that answer and that point.
func (y *yard) ended(t *testing.T, thread int, answer api.Answer, point int) {
	t.Helper()
	c := y.last(thread)
	if y.m.Busy(thread) || c.End != y.now() || c.Answer != answer || c.Point != point {
		t.Fatalf("behind move %d the call is %+v, not ended with %+v and the point %d", y.now(), c, answer, point)
	}
	y.wantHolds(t)
}

// pending asks that a thread's call has not ended, and what point it has.
func (y *yard) pending(t *testing.T, thread int, point int) {
	t.Helper()
	c := y.last(thread)
	if !y.m.Busy(thread) || c.End != -1 || c.Point != point || c.Answer != (api.Answer{}) {
		t.Fatalf("behind move %d the call is %+v, not on its way with the point %d", y.now(), c, point)
	}
	y.wantHolds(t)
}

func (y *yard) wantHolds(t *testing.T) {
	t.Helper()
	if so, e := split.Holds(y.s, y.m.Run()); !so || e != api.OK {
		t.Fatalf("behind move %d: Holds = %v, %d", y.now(), so, e)
	}
}

// wantTens asks that the table has these keys, in rising order, each with ten times itself.
func (y *yard) wantTens(t *testing.T, keys ...int) {
	t.Helper()
	var want []api.Pair
	for _, key := range keys {
		want = append(want, api.Pair{Key: key, Value: 10 * key})
	}
	if got, e := split.Look(y.s, y.m.Run().Words); !slices.Equal(got, want) || e != api.OK {
		t.Errorf("Look = %v, %d, not %v", got, e, want)
	}
}

func (y *yard) wantBuckets(t *testing.T, want ...int) {
	t.Helper()
	if got, e := split.Buckets(y.s, y.m.Run().Words); !slices.Equal(got, want) || e != api.OK {
		t.Errorf("Buckets = %v, %d, not %v", got, e, want)
	}
}

// wantSlots asks which slots the list has, in its order.
func (y *yard) wantSlots(t *testing.T, slots ...int) {
	t.Helper()
	if got := slotsOf(y.s, y.m.Run().Words); !slices.Equal(got, slots) {
		t.Errorf("the list's slots are %v, not %v", got, slots)
	}
}

// slotsOf are the slots along the links from Root on, with or without marks; at most one more than there are.
func slotsOf(s api.Split, words []uint64) []int {
	var slots []int
	for w := words[rootAt]; w&^markBit != 0 && len(slots) <= s.Config.Slots; w = words[linkAt(s, slotIn(w))] {
		slots = append(slots, slotIn(w))
	}
	return slots
}

// wantSizes asks for the words count and size.
func (y *yard) wantSizes(t *testing.T, count int, size uint64) {
	t.Helper()
	if c, n := y.word(countAt(y.s)), y.word(sizeAt(y.s)); int(c) != count || n != size {
		t.Errorf("count %d, size %d, not %d, %d", int(c), n, count, size)
	}
}

// states are the slots' states behind a run, told by its shifts.
func states(s api.Split, r api.Run) []api.State {
	list := make([]api.State, s.Config.Slots)
	for _, x := range r.Shifts {
		list[x.Slot] = x.To
	}
	return list
}

func (y *yard) wantState(t *testing.T, slot int, want api.State) {
	t.Helper()
	if got := states(y.s, y.m.Run())[slot]; got != want {
		t.Errorf("slot %d is in state %d, not %d", slot, got, want)
	}
}

// wantShifts asks what the shifts from a number on are.
func (y *yard) wantShifts(t *testing.T, from int, want ...api.Shift) {
	t.Helper()
	if got := y.m.Run().Shifts[from:]; !slices.Equal(got, want) {
		t.Errorf("the shifts are %+v, not %+v", got, want)
	}
}

func (y *yard) shifts() int { return len(y.m.Run().Shifts) }

// Moves.

func step(thread int) api.Move { return api.Move{Thread: thread} }

func register(thread int) api.Move { return api.Move{Thread: thread, Op: api.OpRegister} }

func add(thread, key, data int) api.Move {
	return api.Move{Thread: thread, Op: api.OpAdd, Arg: key, Data: data}
}

func get(thread, key int) api.Move { return api.Move{Thread: thread, Op: api.OpGet, Arg: key} }

func remove(thread, key int) api.Move { return api.Move{Thread: thread, Op: api.OpRemove, Arg: key} }

// ops are the table's.
var ops = []api.Op{api.OpAdd, api.OpGet, api.OpRemove}

// Answers.

func value(v int) api.Answer { return api.Answer{Kind: api.AnswerValue, Value: v} }

var (
	done  = api.Answer{Kind: api.AnswerDone}
	empty = api.Answer{Kind: api.AnswerEmpty}
	full  = api.Answer{Kind: api.AnswerFull}
	yes   = api.Answer{Kind: api.AnswerYes}
	no    = api.Answer{Kind: api.AnswerNo}
)

// Accesses.

func load(thread, addr int, saw uint64) api.Access {
	return api.Access{Thread: thread, Kind: api.AccessLoad, Addr: addr, Saw: saw}
}

func store(thread, addr int, w uint64) api.Access {
	return api.Access{Thread: thread, Kind: api.AccessStore, Addr: addr, New: w}
}

// swap is one that succeeds, fails one that sees another word.
func swap(thread, addr int, old, w uint64) api.Access {
	return api.Access{Thread: thread, Kind: api.AccessSwap, Addr: addr, Old: old, New: w, Saw: old}
}

func fails(thread, addr int, old, w, saw uint64) api.Access {
	return api.Access{Thread: thread, Kind: api.AccessSwap, Addr: addr, Old: old, New: w, Saw: saw}
}

// head, link and marked are words as chapter 1 packs them, told by hand.

const markBit = uint64(1) << 32

func head(tag, slot int) uint64 { return uint64(tag)<<32 + uint64(slot+1) }

func link(slot int) uint64 { return uint64(slot + 1) }

func marked(slot int) uint64 { return link(slot) | markBit }

func slotIn(w uint64) int { return int(w&^markBit) - 1 }

// Lines of accesses, as the chapters of the parts have them. A thread holds the record of its number; -1
// stands for no slot.

// loadsSize is how each call begins.
func (y *yard) loadsSize(thread int, size uint64) []api.Access {
	return []api.Access{load(thread, sizeAt(y.s), size)}
}

// first is F1 to F3: of a word that names a slot.
func (y *yard) first(thread, at, slot int) []api.Access {
	return []api.Access{load(thread, at, link(slot)), store(thread, hazardAt(y.s, thread, 1), link(slot)), load(thread, at, link(slot))}
}

// looks is F4 to F8: of a slot with that link and place, named by the word at an address.
func (y *yard) looks(thread, at, slot int, x, place uint64) []api.Access {
	return []api.Access{
		load(thread, linkAt(y.s, slot), x), store(thread, hazardAt(y.s, thread, 0), x&^markBit), load(thread, linkAt(y.s, slot), x),
		load(thread, valueAt(y.s, slot), place), load(thread, at, link(slot)),
	}
}

// passes is F9 and F10: from a slot to the next one.
func (y *yard) passes(thread, slot, next int) []api.Access {
	return []api.Access{store(thread, hazardAt(y.s, thread, 2), link(slot)), store(thread, hazardAt(y.s, thread, 1), link(next))}
}

// free are the slots of the free list, in its order, and the head's tag.
func (y *yard) free() ([]int, int) {
	words := y.m.Run().Words
	var slots []int
	for w := words[freeAt] & (1<<32 - 1); w != 0; w = words[spareAt(y.s, slotIn(w))] {
		slots = append(slots, slotIn(w))
	}
	return slots, int(words[freeAt] >> 32)
}

// takes is A1 to A3 of the slot that stands at a number in the free list as it is now, when those ahead of it
// have been taken.
func (y *yard) takes(thread, number int) []api.Access {
	slots, tag := y.free()
	slots, tag = append(slots, -1)[number:], tag+number
	return []api.Access{
		load(thread, freeAt, head(tag, slots[0])), load(thread, spareAt(y.s, slots[0]), link(slots[1])),
		swap(thread, freeAt, head(tag, slots[0]), head(tag+1, slots[1])),
	}
}

// gives is G1 to G3 of a slot, as the free list is now.
func (y *yard) gives(thread, slot int) []api.Access {
	slots, tag := y.free()
	next := append(slots, -1)[0]
	return []api.Access{
		load(thread, freeAt, head(tag, next)), store(thread, spareAt(y.s, slot), link(next)),
		swap(thread, freeAt, head(tag, next), head(tag+1, slot)),
	}
}

// counts is Count's accesses: of 1, with the size that is seen and not doubled, or of -1.
func (y *yard) counts(thread int, from, to int, sizes ...uint64) []api.Access {
	line := []api.Access{load(thread, countAt(y.s), uint64(from)), swap(thread, countAt(y.s), uint64(from), uint64(to))}
	for _, size := range sizes {
		line = append(line, load(thread, sizeAt(y.s), size))
	}
	return line
}

// plants is what planting a bucket costs, from the word at an address on that names no slot, by a slot of the
// free list as it is now.
func (y *yard) plants(thread, at, bucket, number int) []api.Access {
	slots, _ := y.free()
	slot := slots[number]
	return all(
		one(load(thread, at, 0)), y.takes(thread, number),
		one(store(thread, valueAt(y.s, slot), bucketPlace(bucket)), store(thread, linkAt(y.s, slot), 0), swap(thread, at, 0, link(slot)),
			swap(thread, bucketAt(bucket), 0, link(slot))))
}

// shows is how a call ends that finds the word at an address to name no slot: its answer is No.
func (y *yard) shows(thread, at int) []api.Access {
	return all(one(load(thread, at, 0)), y.leaves(thread))
}

// leaves is Leave.
func (y *yard) leaves(thread int) []api.Access {
	return []api.Access{store(thread, hazardAt(y.s, thread, 0), 0), store(thread, hazardAt(y.s, thread, 1), 0), store(thread, hazardAt(y.s, thread, 2), 0)}
}

// all is lines of accesses one behind the other.
func all(lines ...[]api.Access) []api.Access { return slices.Concat(lines...) }

// one is a line of single accesses.
func one(accesses ...api.Access) []api.Access { return accesses }

// Runs.

func playOf(t *testing.T, s api.Split, moves ...api.Move) api.Run {
	t.Helper()
	r, e := split.Play(s, moves)
	if e != api.OK {
		t.Fatalf("Play = %d", e)
	}
	return r
}

// sameRun tells whether two runs are the same; nil and empty lists are.
func sameRun(a, b api.Run) bool {
	return slices.Equal(a.Calls, b.Calls) && slices.Equal(a.Trace, b.Trace) &&
		slices.Equal(a.Shifts, b.Shifts) && slices.Equal(a.Words, b.Words)
}

func wantRun(t *testing.T, got, want api.Run) {
	t.Helper()
	if !sameRun(got, want) {
		t.Fatalf("run\n%+v, not\n%+v", got, want)
	}
}
