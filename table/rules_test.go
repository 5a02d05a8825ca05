package table_test

import (
	"cmp"
	"maps"
	"slices"
	"testing"

	"reclaim/api"
)

// watch holds a yard against P9.4 (1) and (2) behind every move.
type watch struct {
	*yard
	run   api.Run              // as it is
	made  map[int]struct{}     // the calls, by their numbers, that have put a slot in or a mark
	ahead map[int][]api.Access // of each thread, the accesses of its call
	room  map[int]int          // of each move, the slots that its thread could have taken
	met   map[string]int
}

func watchOf(t *testing.T, c api.Config, met map[string]int) *watch {
	y := yardOf(t, c)
	return &watch{yard: y, run: y.m.Run(), made: map[int]struct{}{}, ahead: map[int][]api.Access{}, room: map[int]int{}, met: met}
}

// move makes a move, and asks for all promises.
func (w *watch) move(t *testing.T, mv api.Move) {
	t.Helper()
	before := w.run
	w.room[w.m.Moves()] = w.a.Count(api.StateFree) + len(w.a.Cached(mv.Thread))
	if w.m.Move(mv) && mv.Op != api.OpStep {
		w.ahead[mv.Thread] = nil
	}
	w.run = w.m.Run()
	for _, a := range w.run.Trace[len(before.Trace):] {
		w.note(t, a)
		w.wantThere(t, a)
		w.ahead[a.Thread] = append(w.ahead[a.Thread], a)
	}
	for _, s := range w.run.Shifts[len(before.Shifts):] {
		w.wantShift(t, before.Words, s)
	}
	w.wantTable(t)
	w.wantShape(t)
	w.noteEnd(t, mv.Thread)
}

// callOf is the number of a thread's last call.
func (w *watch) callOf(thread int) int {
	for number, call := range slices.Backward(w.run.Calls) {
		if call.Thread == thread {
			return number
		}
	}
	return -1
}

// slotAt is the slot whose word of a region is at an address; -1: it is none of these.
func (w *watch) slotAt(r api.Region, addr int) int {
	if slot := addr - w.addr(r, 0, 0); slot >= 0 && slot < w.c.Slots {
		return slot
	}
	return -1
}

// succeeds tells whether an access is a swap that succeeds.
func succeeds(a api.Access) bool { return a.Kind == api.AccessSwap && a.Saw == a.Old }

// names are the calls, as what is met is told.
var names = map[api.Op]string{api.OpAdd: "an add", api.OpRemove: "a remove", api.OpGet: "a get"}

// note notes which calls have put a slot in or a mark, and what accesses have met: by what came ahead of
// them in the same call one knows which line they are of.
func (w *watch) note(t *testing.T, a api.Access) {
	t.Helper()
	number := w.callOf(a.Thread)
	call, ahead := w.run.Calls[number], w.ahead[a.Thread]
	ofScan := a.Addr == freeAddr || a.Addr >= w.addr(api.RegionActive, 0, 0) && a.Addr < w.valueAt(0)
	if !slices.Contains(ops, call.Op) || len(ahead) == 0 || a.Kind == api.AccessStore || ofScan {
		return
	}
	last := ahead[len(ahead)-1]
	switch sees := w.slotAt(api.RegionData, a.Addr); {
	case a.Kind == api.AccessSwap:
		w.noteSwap(t, number, a, last)
	case sees >= 0:
		state, _, _ := w.a.State(sees)
		w.count(state == api.StateLinked, names[call.Op]+" that sees its value")
		w.count(state != api.StateLinked, names[call.Op]+" that sees the value of a slot that is out")
	case last.Kind == api.AccessStore && last.Addr == w.Addr(a.Thread, 1) && a.Addr == rootOf(w.c, call.Arg):
		w.count(a.Saw != last.New, "F3 of a word that has changed")
	case last.Kind == api.AccessStore && last.Addr == w.Addr(a.Thread, 0):
		w.count(a.Saw != ahead[len(ahead)-2].Saw, "F6 of a link that has changed")
	case w.slotAt(api.RegionValue, last.Addr) >= 0:
		w.count(a.Saw != link(w.slotAt(api.RegionValue, last.Addr)), "F8 of a word that has changed")
	}
}

// noteSwap notes a swap, with the access ahead of it.
func (w *watch) noteSwap(t *testing.T, number int, a, last api.Access) {
	t.Helper()
	how := map[bool]string{true: "", false: " too late"}[succeeds(a)]
	switch {
	case a.New&markBit != 0:
		w.met["a mark"+how]++
		w.makes(t, number, a)
	case w.slotAt(api.RegionData, last.Addr) >= 0:
		w.met["a swap behind the mark"+how]++
	case last.Kind == api.AccessStore:
		w.met["a swap that puts in"+how]++
		w.makes(t, number, a)
	default:
		w.met["F11 of "+names[w.run.Calls[number].Op]+how]++
	}
}

func (w *watch) count(met bool, what string) {
	if met {
		w.met[what]++
	}
}

// makes notes that a call has made its swap: that is its point, from this move on.
func (w *watch) makes(t *testing.T, number int, a api.Access) {
	t.Helper()
	if !succeeds(a) {
		return
	}
	w.made[number] = struct{}{}
	if call := w.run.Calls[number]; call.Point != a.Move {
		t.Fatalf("%+v, but the point of %+v is another", a, call)
	}
}

// wantThere is G2 of an access: a slot whose value, data or link is loaded or written is neither free nor
// in a cache, and if it is owned it is the thread's.
func (w *watch) wantThere(t *testing.T, a api.Access) {
	t.Helper()
	for _, r := range []api.Region{api.RegionValue, api.RegionData, api.RegionLink} {
		slot := w.slotAt(r, a.Addr)
		if slot < 0 {
			continue
		}
		state, holder, _ := w.a.State(slot)
		if state == api.StateFree || state == api.StateCached || state == api.StateOwned && holder != a.Thread {
			t.Fatalf("%+v, of slot %d in state %d with %d", a, slot, state, holder)
		}
	}
}

// wantShift: a slot goes to Detached out of Linked, with a mark, in the move in which it leaves its bucket; to
// Linked in the move in which it comes into it.
func (w *watch) wantShift(t *testing.T, words []uint64, s api.Shift) {
	t.Helper()
	op := w.run.Calls[w.callOf(s.Thread)].Op
	w.count(s.From == api.StateCached && op == api.OpAdd, "an add out of the cache")
	w.count(s.From == api.StateOwned && s.To != api.StateLinked, "an add that gives its slot back")
	if !slices.Contains(ops, op) || s.To != api.StateDetached && s.To != api.StateLinked {
		return
	}
	before, after := slices.Contains(w.allSlots(words), s.Slot), slices.Contains(w.allSlots(w.run.Words), s.Slot)
	switch {
	case s.To == api.StateLinked && s.From == api.StateOwned && !before && after:
	case s.To == api.StateDetached && s.From == api.StateLinked && before && !after && words[w.linkAt(s.Slot)]&markBit != 0:
	default:
		t.Fatalf("%+v, in a bucket ahead: %v, behind: %v", s, before, after)
	}
}

// allSlots are those of all buckets.
func (w *watch) allSlots(words []uint64) []int {
	var all []int
	for bucket := range w.c.Buckets {
		all = append(all, slotsOf(w.c, words, bucket)...)
	}
	return all
}

// wantTable is P9.4 (1), that each point lies within its call's time and is no other's, and that the words
// hold what the calls leave.
func (w *watch) wantTable(t *testing.T) {
	t.Helper()
	pairs := map[int]int{}
	last := -1
	for _, number := range w.pointed(t) {
		c := w.run.Calls[number]
		data, there := pairs[c.Arg]
		if c.Point == last {
			t.Fatalf("two calls have the point %d", last)
		}
		last = c.Point
		want, does := no, false
		switch {
		case c.Op == api.OpAdd && !there:
			want, does = yes, true
			pairs[c.Arg] = c.Data
		case c.Op == api.OpRemove && there:
			want, does = value(data), true
			delete(pairs, c.Arg)
		case c.Op == api.OpGet && there:
			want = value(data)
		}
		if _, made := w.made[number]; made != does || c.End >= 0 && c.Answer != want {
			t.Fatalf("%+v, made its swap: %v, not %+v; the table is %v", c, made, want, pairs)
		}
	}
	if got := pairsOf(w.c, w.run.Words); !maps.Equal(got, pairs) {
		t.Fatalf("the words have %v, the calls leave %v", got, pairs)
	}
}

// pointed are the numbers of the table's calls that have a point and did not answer Full, in the order of
// their points. A call that has not ended has none, if it will answer Full.
func (w *watch) pointed(t *testing.T) []int {
	t.Helper()
	var numbers []int
	for number, c := range w.run.Calls {
		switch {
		case !slices.Contains(ops, c.Op), c.Point < 0 && c.End < 0:
		case c.Point <= c.Begin, c.End >= 0 && c.Point > c.End, c.End >= 0 && c.Answer == api.Answer{}:
			t.Fatalf("%+v", c)
		case c.Answer != full:
			numbers = append(numbers, number)
		}
	}
	slices.SortFunc(numbers, func(a, b int) int { return cmp.Compare(w.run.Calls[a].Point, w.run.Calls[b].Point) })
	return numbers
}

// wantShape is P9.4 (2), and that the buckets' slots and the cell's are those that are linked.
func (w *watch) wantShape(t *testing.T) {
	t.Helper()
	words := w.run.Words
	var held []int
	filled, longest := 0, 0
	for bucket := range w.c.Buckets {
		row := slotsOf(w.c, words, bucket)
		w.wantRow(t, bucket, row)
		held = append(held, row...)
		longest = max(longest, len(row))
		if len(row) > 0 {
			filled++
		}
	}
	w.count(filled > 1, "keys in several buckets")
	w.count(longest > 1, "keys that share a bucket")
	if cell := slotIn(words[cellAddr]); cell >= 0 {
		held = append(held, cell)
	}
	var linked []int
	for slot := range w.c.Slots {
		if state, _, _ := w.a.State(slot); state == api.StateLinked {
			linked = append(linked, slot)
		}
	}
	slices.Sort(held)
	if !slices.Equal(held, linked) {
		t.Fatalf("the slots of the buckets and the cell are %v, linked are %v", held, linked)
	}
}

// wantRow asks that the keys of a bucket's slots are the bucket's own, and rise, those of marked slots too;
// its first link never has a mark.
func (w *watch) wantRow(t *testing.T, bucket int, row []int) {
	t.Helper()
	words := w.run.Words
	for i, slot := range row {
		key := int(words[w.valueAt(slot)])
		if bucketOf(key, w.c.Buckets) != bucket {
			t.Fatalf("the key %d is in bucket %d", key, bucket)
		}
		if i > 0 && int(words[w.valueAt(row[i-1])]) >= key {
			t.Fatalf("the keys of the slots %v don't rise", row)
		}
	}
	if words[firstRoot+bucket]&markBit != 0 {
		t.Fatalf("the root of bucket %d is %x", bucket, words[firstRoot+bucket])
	}
}

// noteEnd notes how a call has ended; of an add that found no slot it asks for G4.
func (w *watch) noteEnd(t *testing.T, thread int) {
	t.Helper()
	call, known := w.m.Call(thread)
	if !known || call.End != w.m.Moves()-1 || !slices.Contains(ops, call.Op) {
		return
	}
	how := map[api.AnswerKind]string{
		api.AnswerYes: " yes", api.AnswerNo: " no", api.AnswerFull: " full", api.AnswerValue: " a value",
	}[call.Answer.Kind]
	w.met[names[call.Op]+" that answers"+how]++
	if call.Answer == full && w.room[call.Point] > 0 {
		t.Fatalf("%+v, but there was room", call)
	}
}

// P9.4 (1) and (2): behind every move of chance scripts, which meet all that there is to meet.
func TestRules(t *testing.T) {
	met := map[string]int{}
	eachChance(t, 700, func(c api.Config, moves []api.Move) {
		w := watchOf(t, c, met)
		for _, mv := range moves {
			w.move(t, mv)
		}
	})
	for _, what := range []string{
		"F3 of a word that has changed", "F6 of a link that has changed", "F8 of a word that has changed",
		"F11 of an add", "F11 of an add too late", "F11 of a remove", "F11 of a remove too late", "F11 of a get", "F11 of a get too late",
		"a mark", "a mark too late", "a swap behind the mark", "a swap behind the mark too late", "a swap that puts in", "a swap that puts in too late",
		"a get that sees its value", "a get that sees the value of a slot that is out",
		"a remove that sees its value", "a remove that sees the value of a slot that is out",
		"an add out of the cache", "an add that gives its slot back", "keys in several buckets", "keys that share a bucket",
		"an add that answers yes", "an add that answers no", "an add that answers full",
		"a remove that answers a value", "a remove that answers no", "a get that answers a value", "a get that answers no",
	} {
		if met[what] == 0 {
			t.Errorf("no script comes to %s", what)
		}
		delete(met, what)
	}
	if len(met) > 0 {
		t.Errorf("there are %v too", met)
	}
}

// P9.4 (1) and (2): likewise of three calls of two threads, over buckets of up to two keys: the first one is
// cut at each of its steps, the second one is made whole there, and the third one is cut by the rest of the
// first.
func TestRulesOfCutCalls(t *testing.T) {
	calls := []func(thread, key int) api.Move{
		func(thread, key int) api.Move { return add(thread, key, 10*key+thread) }, remove, get,
	}
	for _, held := range [][]int{nil, {5}, {3, 5}} {
		for kind := range 27 {
			for _, key := range []int{3, 5} {
				for cut := range 22 {
					for other := 1; other < 22; other += 5 {
						w := watchOf(t, configOf(2, 2, 1, 0, 4, 2), map[string]int{})
						w.calls(t, register(0), register(1))
						w.run = w.m.Run()
						for _, key := range held {
							w.whole(t, add(0, key, 10*key+7))
						}
						w.move(t, calls[kind%3](0, 5))
						w.times(t, 0, cut)
						w.whole(t, calls[kind/3%3](1, key))
						w.move(t, calls[kind/9](1, 5))
						w.times(t, 1, other)
						w.times(t, 0, 90)
						w.times(t, 1, 90)
					}
				}
			}
		}
	}
}

// whole makes a call to its end.
func (w *watch) whole(t *testing.T, mv api.Move) {
	t.Helper()
	w.move(t, mv)
	w.times(t, mv.Thread, 90)
	if w.m.Busy(mv.Thread) {
		t.Fatalf("%+v doesn't come to an end", mv)
	}
}

// times lets a thread make so many steps, or fewer if its call ends.
func (w *watch) times(t *testing.T, thread, count int) {
	t.Helper()
	for range count {
		if !w.m.Busy(thread) {
			return
		}
		w.move(t, step(thread))
	}
}
