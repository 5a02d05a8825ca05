package table_test

import (
	"maps"
	"slices"
	"testing"

	"reclaim/api"
	"reclaim/arena"
	"reclaim/hazard"
	"reclaim/machine"
	"reclaim/table"
	"reclaim/word"
)

// Ops that no chapter has: one begins the task that a test has made, one stores Data at the address
// Arg.
const (
	opPart api.Op = 999
	opPoke api.Op = 998
)

// The addresses of these words are the same in each configuration.
const (
	freeAddr  = 0
	cellAddr  = 1
	firstRoot = 6 // bucket 0's
)

// configOf is a configuration in which what the table looks at is of interest.
func configOf(threads, records, retire, cache, slots, buckets int) api.Config {
	return api.Config{Threads: threads, Records: records, Hazards: 3, Retire: retire, Cache: cache, Slots: slots, Buckets: buckets}
}

// The chapter's examples are of this configuration.
func example() api.Config { return configOf(1, 1, 1, 0, 2, 2) }

// tableOf is a yard of two threads that hold the records of their numbers, with a table of two buckets and
// of keys: slot i has the key of number i, with ten times the key as its value. Nothing is scanned ahead of
// nine retired slots.
func tableOf(t *testing.T, keys ...int) *yard {
	t.Helper()
	y := yardOf(t, configOf(2, 2, 9, 0, 6, 2))
	y.calls(t, register(0), register(1))
	y.addAll(t, keys...)
	return y
}

// yard is hazards with a machine whose words go with them, and which knows their calls and those of
// the table.
type yard struct {
	*hazard.Hazards
	a    *arena.Arena
	c    api.Config
	m    *machine.Machine
	part machine.Task // the one that opPart begins
}

func yardOf(t *testing.T, c api.Config) *yard {
	t.Helper()
	a := arenaOf(t, c)
	y := &yard{Hazards: hazard.New(a), a: a, c: c}
	words, _ := word.First(c, 0)
	own := machine.Kit{
		opPart: func(int, api.Move) machine.Task { return y.part },
		opPoke: func(_ int, mv api.Move) machine.Task { return poke(mv) },
	}
	m, e := machine.New(c.Threads, words, machine.Join(y.Kit(), table.Kit(y.Hazards), own))
	if e != api.OK {
		t.Fatalf("machine.New = %d", e)
	}
	y.m = m
	return y
}

func arenaOf(t *testing.T, c api.Config) *arena.Arena {
	t.Helper()
	a, e := arena.New(c, 0)
	if e != api.OK {
		t.Fatalf("arena.New(%+v) = %d", c, e)
	}
	return a
}

// poke is a task that stores a word.
type poke api.Move

func (p poke) Ready(*machine.Desk) bool { return false }

func (p poke) Step(d *machine.Desk) bool { d.Store(p.Arg, uint64(p.Data)); return true }

// begin begins a task as a thread's call.
func (y *yard) begin(t *testing.T, thread int, part machine.Task) {
	t.Helper()
	y.part = part
	y.make(t, api.Move{Thread: thread, Op: opPart})
}

// make makes moves of which each is to do something.
func (y *yard) make(t *testing.T, moves ...api.Move) {
	t.Helper()
	for _, mv := range moves {
		if !y.m.Move(mv) {
			t.Fatalf("%+v does nothing", mv)
		}
	}
}

// steps lets a thread make steps of which each is to find it busy.
func (y *yard) steps(t *testing.T, thread, count int) {
	t.Helper()
	y.make(t, slices.Repeat([]api.Move{step(thread)}, count)...)
}

// finish lets a thread make steps till its call has ended, and tells how many.
func (y *yard) finish(t *testing.T, thread int) int {
	t.Helper()
	for count := 0; ; count++ {
		if !y.m.Busy(thread) {
			return count
		}
		if count > 5000 {
			t.Fatalf("thread %d doesn't come to an end", thread)
		}
		y.steps(t, thread, 1)
	}
}

// call begins a call, lets the thread come to its end alone, and tells what it came to.
func (y *yard) call(t *testing.T, mv api.Move) api.Call {
	t.Helper()
	y.make(t, mv)
	y.finish(t, mv.Thread)
	return y.last(mv.Thread)
}

// calls makes calls one after the other, each to its end.
func (y *yard) calls(t *testing.T, moves ...api.Move) {
	t.Helper()
	for _, mv := range moves {
		y.call(t, mv)
	}
}

func (y *yard) addAll(t *testing.T, keys ...int) {
	t.Helper()
	for _, key := range keys {
		if got := y.call(t, add(0, key, 10*key)); got.Answer != yes {
			t.Fatalf("%+v", got)
		}
	}
}

// mark puts a mark into a slot's link, as a Remove's first swap does.
func (y *yard) mark(t *testing.T, slots ...int) {
	t.Helper()
	for _, slot := range slots {
		y.call(t, poked(0, y.linkAt(slot), y.word(y.linkAt(slot))|markBit))
	}
}

func (y *yard) last(thread int) api.Call {
	c, _ := y.m.Call(thread)
	return c
}

// wantPairs asks what the table holds, by the words alone: each key with its value.
func (y *yard) wantPairs(t *testing.T, want map[int]int) {
	t.Helper()
	if got := pairsOf(y.c, y.m.Run().Words); !maps.Equal(got, want) {
		t.Errorf("the table is %v, not %v", got, want)
	}
}

// wantTens asks that the table holds these keys, each with ten times itself.
func (y *yard) wantTens(t *testing.T, keys ...int) {
	t.Helper()
	want := map[int]int{}
	for _, key := range keys {
		want[key] = 10 * key
	}
	y.wantPairs(t, want)
}

// wantSlots asks which slots a bucket has, those with a mark too.
func (y *yard) wantSlots(t *testing.T, bucket int, slots ...int) {
	t.Helper()
	if got := slotsOf(y.c, y.m.Run().Words, bucket); !slices.Equal(got, slots) {
		t.Errorf("the slots of bucket %d are %v, not %v", bucket, got, slots)
	}
}

// slotsOf are the slots along the words Link from a bucket's word on, whether or not they have a mark; at
// most as many as there are, with one more where the links go round.
func slotsOf(c api.Config, words []uint64, bucket int) []int {
	var list []int
	for w := words[firstRoot+bucket]; w&^markBit != 0 && len(list) <= c.Slots; w = words[addrOf(c, api.RegionLink, slotIn(w), 0)] {
		list = append(list, slotIn(w))
	}
	return list
}

// pairsOf are the keys of the slots that have no mark, in all buckets, with their values.
func pairsOf(c api.Config, words []uint64) map[int]int {
	pairs := map[int]int{}
	for bucket := range c.Buckets {
		for _, slot := range slotsOf(c, words, bucket) {
			if words[addrOf(c, api.RegionLink, slot, 0)]&markBit == 0 {
				pairs[int(words[addrOf(c, api.RegionValue, slot, 0)])] = int(words[addrOf(c, api.RegionData, slot, 0)])
			}
		}
	}
	return pairs
}

// rootOf is the address of the first link of a key's bucket, told by hand.
func rootOf(c api.Config, key int) int { return firstRoot + bucketOf(key, c.Buckets) }

// bucketOf is a key's bucket: as a word, a key below 0 is 2^64 more than it is.
func bucketOf(key, buckets int) int {
	rest := key % buckets
	if rest < 0 {
		rest += buckets
	}
	if key < 0 {
		rest += wordsRest(buckets)
	}
	return rest % buckets
}

// wordsRest is 2^64 modulo a number.
func wordsRest(modulo int) int {
	rest := 1
	for range 64 {
		rest = 2 * rest % modulo
	}
	return rest
}

// addr is a place's address.
func (y *yard) addr(r api.Region, i, k int) int { return addrOf(y.c, r, i, k) }

func addrOf(c api.Config, r api.Region, i, k int) int {
	addr, _ := word.Addr(c, api.Place{Region: r, I: i, K: k})
	return addr
}

func (y *yard) valueAt(slot int) int { return y.addr(api.RegionValue, slot, 0) }

func (y *yard) dataAt(slot int) int { return y.addr(api.RegionData, slot, 0) }

func (y *yard) linkAt(slot int) int { return y.addr(api.RegionLink, slot, 0) }

func (y *yard) hazardAt(record, k int) int { return y.addr(api.RegionHazard, record, k) }

func (y *yard) word(addr int) uint64 { return y.m.Run().Words[addr] }

// wantOnWay asks that a thread's call has neither a point nor an end yet.
func (y *yard) wantOnWay(t *testing.T, thread int) {
	t.Helper()
	if got := y.last(thread); got.Point != -1 || got.End != -1 {
		t.Errorf("%+v is not on its way", got)
	}
}

// wantAnswer asks what a thread's last call has answered.
func (y *yard) wantAnswer(t *testing.T, thread int, want api.Answer) {
	t.Helper()
	if got := y.last(thread); got.Answer != want || got.End < 0 {
		t.Errorf("%+v, not %+v", got, want)
	}
}

func (y *yard) wantState(t *testing.T, slot int, state api.State, holder int) {
	t.Helper()
	if s, h, e := y.a.State(slot); s != state || h != holder || e != api.OK {
		t.Errorf("State(%d) = %d, %d, %d, not %d, %d", slot, s, h, e, state, holder)
	}
}

func (y *yard) wantList(t *testing.T, record int, slots ...int) {
	t.Helper()
	if got := y.List(record); !slices.Equal(got, slots) {
		t.Errorf("List(%d) = %v, not %v", record, got, slots)
	}
}

// wantSeen asks what the accesses from a number on are; their moves are not held against.
func (y *yard) wantSeen(t *testing.T, from int, want ...api.Access) {
	t.Helper()
	got := y.m.Run().Trace[from:]
	for i := range got {
		got[i].Move = 0
	}
	if !slices.Equal(got, want) {
		t.Errorf("the accesses are\n%+v, not\n%+v", got, want)
	}
}

// accesses tells how many accesses were made.
func (y *yard) accesses() int { return len(y.m.Run().Trace) }

// wantShifts asks what the shifts from a number on are, likewise.
func (y *yard) wantShifts(t *testing.T, from int, want ...api.Shift) {
	t.Helper()
	got := y.m.Run().Shifts[from:]
	for i := range got {
		got[i].Move = 0
	}
	if !slices.Equal(got, want) {
		t.Errorf("the shifts are\n%+v, not\n%+v", got, want)
	}
}

func (y *yard) shifts() int { return len(y.m.Run().Shifts) }

// wantOnlyCalls asks that since that run calls were begun and ended, and nothing else was recorded.
func (y *yard) wantOnlyCalls(t *testing.T, before api.Run) {
	t.Helper()
	after := y.m.Run()
	after.Calls = before.Calls
	wantRun(t, after, before)
}

// playOf is the run of a script.
func playOf(t *testing.T, c api.Config, moves ...api.Move) api.Run {
	t.Helper()
	r, e := table.Play(c, moves)
	if e != api.OK {
		t.Fatalf("Play = %d", e)
	}
	return r
}

// sameRun tells whether two runs are the same; nil and empty lists are.
func sameRun(a, b api.Run) bool {
	return slices.Equal(a.Calls, b.Calls) && slices.Equal(a.Trace, b.Trace) &&
		slices.Equal(a.Shifts, b.Shifts) && slices.Equal(a.Words, b.Words)
}

func wantRun(t *testing.T, got, want api.Run) {
	t.Helper()
	if !sameRun(got, want) {
		t.Fatalf("run\n%+v, not\n%+v", got, want)
	}
}
