package pool_test

import (
	"slices"
	"testing"

	"reclaim/api"
	"reclaim/arena"
	"reclaim/hazard"
	"reclaim/list"
	"reclaim/machine"
	"reclaim/pool"
	"reclaim/queue"
	"reclaim/stack"
	"reclaim/table"
	"reclaim/word"
)

// watch holds a machine of New against P10.5, P10.6 and G1 to G5 behind every move. Beside it a machine makes
// the same moves whose arena and hazards the test knows.
type watch struct {
	*hazard.Hazards
	a       *arena.Arena
	c       api.Config
	m, twin *machine.Machine
	run     api.Run     // m's, as it is
	states  []api.State // of each slot, as the shifts tell it
	holders []int       // likewise
	object  map[int]int // of each slot, the object that has linked it last
	since   map[int]int // of each hazard word 1, if its slot has been Linked since it was written
	room    map[int]int // of each move, the slots that its thread could have taken
	gap     int         // steps since a call has ended
	met     map[string]int
}

func watchOf(t *testing.T, c api.Config, met map[string]int) *watch {
	t.Helper()
	a, _ := arena.New(c, 1)
	h := hazard.New(a)
	words, _ := word.First(c, 1)
	twin, _ := machine.New(c.Threads, words, machine.Join(table.Kit(h), list.Kit(h), queue.Kit(h), stack.Kit(h), h.Kit(), a.Kit()))
	w := &watch{Hazards: h, a: a, c: c, m: machineOf(t, c), twin: twin, states: make([]api.State, c.Slots), holders: slices.Repeat([]int{-1}, c.Slots),
		object: map[int]int{0: 3}, since: map[int]int{}, room: map[int]int{}, met: met}
	w.states[0] = api.StateLinked
	w.run = w.m.Run()
	return w
}

// move makes a move, and asks for all promises.
func (w *watch) move(t *testing.T, mv api.Move) {
	t.Helper()
	before := w.run
	w.room[w.m.Moves()] = w.a.Count(api.StateFree) + len(w.a.Cached(mv.Thread))
	if did := w.m.Move(mv); did != w.twin.Move(mv) {
		t.Fatalf("%+v does something: %v", mv, did)
	}
	w.run = w.m.Run()
	accesses, shifts := w.run.Trace[len(before.Trace):], w.run.Shifts[len(before.Shifts):]
	for _, a := range accesses {
		w.noteHazard(a)
	}
	for _, s := range shifts {
		w.wantShift(t, s)
	}
	for _, a := range accesses {
		w.wantThere(t, a)
	}
	w.wantShape(t)
	w.wantLists(t)
	w.wantEnd(t, mv, len(accesses) > 0)
}

func (w *watch) count(met bool, what string) {
	if met {
		w.met[what]++
	}
}

// wantThere is G2 of an access, behind its move's shifts (a slot out of the cache is written to in the move in
// which it is taken): a slot whose value, data or link is accessed is neither free nor in a cache, and if it
// is owned it is the thread's.
func (w *watch) wantThere(t *testing.T, a api.Access) {
	t.Helper()
	place, _ := word.At(w.c, a.Addr)
	if place.Region < api.RegionValue {
		return
	}
	state, holder := w.states[place.I], w.holders[place.I]
	if state == api.StateFree || state == api.StateCached || state == api.StateOwned && holder != a.Thread {
		t.Fatalf("%+v, of slot %d in state %d with %d", a, place.I, state, holder)
	}
	w.count(state == api.StateRetired, "an access to a slot that is retired")
}

// noteHazard notes, ahead of the shifts of its move, which hazards name a slot since it was Linked.
func (w *watch) noteHazard(a api.Access) {
	if place, _ := word.At(w.c, a.Addr); place.Region != api.RegionHazard || a.Kind != api.AccessStore {
		return
	}
	if w.since[a.Addr] = 0; a.New != 0 && w.states[int(a.New)-1] == api.StateLinked {
		w.since[a.Addr] = 1
	}
}

// turns are the changes of state that there may be; true: by the slot's holder alone.
var turns = map[[2]api.State]bool{
	{api.StateFree, api.StateOwned}: false, {api.StateCached, api.StateOwned}: true, {api.StateCached, api.StateFree}: true,
	{api.StateOwned, api.StateLinked}: true, {api.StateOwned, api.StateCached}: true, {api.StateOwned, api.StateFree}: true,
	{api.StateLinked, api.StateDetached}: false, {api.StateDetached, api.StateRetired}: true,
	{api.StateRetired, api.StateCached}: false, {api.StateRetired, api.StateFree}: false,
}

// wantShift is G2 of a shift: one that may be, from the state that the slot is in; what is given back from a
// list no hazard names that has named it since it was Linked.
func (w *watch) wantShift(t *testing.T, s api.Shift) {
	t.Helper()
	own, may := turns[[2]api.State{s.From, s.To}]
	if !may || w.states[s.Slot] != s.From || own && w.holders[s.Slot] != s.Thread {
		t.Fatalf("%+v, of a slot in state %d with %d", s, w.states[s.Slot], w.holders[s.Slot])
	}
	first := addrOf(w.c, api.RegionHazard, 0)
	for addr := first; addr < first+w.all(); addr++ {
		switch {
		case w.run.Words[addr] != link(s.Slot):
		case s.To == api.StateLinked:
			w.since[addr] = 1
		case s.From == api.StateRetired && w.since[addr] == 1:
			t.Fatalf("%+v, but the hazard at %d names it", s, addr)
		}
	}
	w.states[s.Slot], w.holders[s.Slot] = s.To, s.Thread
	if s.To == api.StateFree || s.To == api.StateLinked {
		w.holders[s.Slot] = -1
	}
	w.noteObject(s)
}

// noteObject notes that a slot goes from one object to another.
func (w *watch) noteObject(s api.Shift) {
	if s.To != api.StateLinked {
		return
	}
	call, _ := w.m.Call(s.Thread)
	object := objectOf(call.Op)
	w.count(w.object[s.Slot] > 0 && w.object[s.Slot] != object, "a slot that another object had")
	w.object[s.Slot] = object
}

// all is Records * Hazards.
func (w *watch) all() int { return w.c.Records * w.c.Hazards }

// listed, solo and window are chapter 13's bounds.
func (w *watch) listed() int { return max(w.c.Retire, w.all()+1) + (w.c.Records-1)*w.all() }

func (w *watch) solo() int {
	c := w.c
	return 56*c.Slots + (c.Threads+2)*(3*c.Records+w.all()+3*w.listed()+3) + 3*c.Cache + 2*c.Records + c.Hazards + 100
}

func (w *watch) window() int {
	c := w.c
	v := 8*c.Threads + 1 + c.Threads*c.Cache + c.Records*w.listed()
	return c.Threads*((v+6)*(7*(c.Slots+c.Threads)+12)+(c.Threads+2)*(3*c.Records+w.all()+3*w.listed())+3*v+3*c.Cache+2*c.Records+c.Hazards+43) + 1
}

// wantShape is P10.5, P10.6 with G1, and G3 of slots: Look and Free are OK; the slots of the free list are
// those that are free, those of the chains and the cell those that are linked, those in caches those that
// are cached; what Look tells is what the calls leave.
func (w *watch) wantShape(t *testing.T) {
	t.Helper()
	words := w.run.Words
	x, e := pool.Look(w.c, words)
	free, f := pool.Free(w.c, words)
	if e != api.OK || f != api.OK {
		t.Fatalf("Look = %d, Free = %d of %x", e, f, words)
	}
	if want := wantOrder(t, w.run.Calls); !sameContents(x, want) {
		t.Fatalf("Look = %+v, the calls leave %+v", x, want)
	}
	for slot, state := range w.states {
		known, holder, _ := w.a.State(slot)
		if known != state || holder != w.holders[slot] {
			t.Fatalf("slot %d is %d with %d, by its shifts %d with %d", slot, known, holder, state, w.holders[slot])
		}
	}
	var cached []int
	for thread := range w.c.Threads {
		cached = append(cached, w.a.Cached(thread)...)
	}
	w.wantIn(t, "the free list", free, api.StateFree)
	w.wantIn(t, "caches", cached, api.StateCached)
	w.wantIn(t, "chains", w.chained(), api.StateLinked)
	w.noteContents(x)
}

// wantIn asks that the slots of some lists, each once, are those in a state.
func (w *watch) wantIn(t *testing.T, where string, slots []int, state api.State) {
	t.Helper()
	var want []int
	for slot, s := range w.states {
		if s == state {
			want = append(want, slot)
		}
	}
	if got := slices.Sorted(slices.Values(slots)); !slices.Equal(got, want) {
		t.Fatalf("in %s are %v, in that state %v", where, got, want)
	}
}

// chained are the slots of all chains, and the cell's.
func (w *watch) chained() []int {
	s := sheetOf(w.c, w.run.Words)
	var all []int
	if cell := int(w.run.Words[1]) - 1; cell >= 0 {
		all = append(all, cell)
	}
	for at := 2; at < 6+w.c.Buckets; at++ {
		if at == 4 { // Tail begins no chain
			continue
		}
		slots, marks, _ := s.walk(w.run.Words[at], s.link)
		all = append(all, slots...)
		w.count(at == 5 && slices.Contains(marks, true), "a mark in the list")
		w.count(at > 5 && slices.Contains(marks, true), "a mark in a bucket")
		w.count(at == 3 && link(slots[len(slots)-1]) != w.run.Words[4], "a Tail that is behind")
	}
	return all
}

func (w *watch) noteContents(x api.Contents) {
	lengths := []int{len(x.Cell), len(x.Stack), len(x.Queue), len(x.Set), len(x.Table)}
	for i, length := range lengths {
		w.count(length > 0, []string{"a cell", "a stack", "a queue", "a set", "a table"}[i])
	}
	w.count(!slices.Contains(lengths, 0), "objects that all hold something")
	w.count(!slices.IsSortedFunc(x.Table, func(a, b api.Pair) int {
		return bucketOf(a.Key, w.c.Buckets) - bucketOf(b.Key, w.c.Buckets)
	}), "keys whose buckets don't rise")
}

// wantLists is G3 of retired lists.
func (w *watch) wantLists(t *testing.T) {
	t.Helper()
	for record := range w.c.Records {
		if length := len(w.List(record)); length > w.listed() {
			t.Fatalf("%d slots are in the list of record %d", length, record)
		}
	}
	if waits := w.a.Count(api.StateRetired); waits > w.c.Records*w.listed() {
		t.Fatalf("%d slots are retired", waits)
	}
}

// wantEnd asks of a call that has ended that a scan leaves at most Records * Hazards slots, and, by G4, that
// a Full was honest; and that some call ends, by G5.
func (w *watch) wantEnd(t *testing.T, mv api.Move, accessed bool) {
	t.Helper()
	call, known := w.m.Call(mv.Thread)
	ended := known && call.End == w.m.Moves()-1
	switch {
	case ended:
		w.gap = 0
	case accessed:
		w.gap++
	}
	if w.gap >= w.window() {
		t.Fatalf("no call has ended for %d steps", w.gap)
	}
	if known && call.End < 0 && call.Point == w.m.Moves()-1 {
		w.met[nameOf(call)+" that has its point and goes on"]++
	}
	if !ended {
		return
	}
	w.met[nameOf(call)+" that answers "+kinds[call.Answer.Kind]]++
	if call.Op == api.OpScan && len(w.List(w.Record(mv.Thread))) > w.all() {
		t.Fatalf("a scan leaves %v", w.List(w.Record(mv.Thread)))
	}
	at := call.Point
	if call.Op == api.OpTake {
		at = call.End
	}
	if call.Answer == full && call.Op != api.OpRegister && w.room[at] > 0 {
		t.Fatalf("%+v, but there was room", call)
	}
}

// kinds and nameOf tell calls, as what is met is told.
var kinds = map[api.AnswerKind]string{
	api.AnswerDone: "done", api.AnswerValue: "a value", api.AnswerEmpty: "empty", api.AnswerFull: "full", api.AnswerYes: "yes", api.AnswerNo: "no",
}

func nameOf(c api.Call) string {
	return map[api.Op]string{
		api.OpTake: "a take", api.OpGive: "a give", api.OpFlush: "a flush", api.OpRegister: "a register", api.OpUnregister: "an unregister",
		api.OpPost: "a post", api.OpRead: "a read", api.OpClear: "a clear", api.OpScan: "a scan", api.OpPush: "a push", api.OpPop: "a pop",
		api.OpEnqueue: "an enqueue", api.OpDequeue: "a dequeue", api.OpInsert: "an insert", api.OpDelete: "a delete", api.OpContains: "a contains",
		api.OpAdd: "an add", api.OpRemove: "a remove", api.OpGet: "a get",
	}[c.Op]
}

// wantOver asks, when a script is over, that both machines have made the same run; that each thread that is
// alone ends its call within Solo steps; and that what is left then is what all calls leave.
func (w *watch) wantOver(t *testing.T) {
	t.Helper()
	for thread := range w.c.Threads {
		steps := 0
		for ; w.m.Busy(thread); steps++ {
			w.move(t, step(thread))
		}
		if steps > w.solo() {
			t.Fatalf("thread %d takes %d steps alone", thread, steps)
		}
	}
	wantRun(t, w.run, w.twin.Run())
}

// P10.5, P10.6, G1 to G5: behind every move of chance scripts, which meet all that there is to meet.
func TestRules(t *testing.T) {
	met := map[string]int{}
	eachChance(t, 450, func(c api.Config, moves []api.Move) {
		w := watchOf(t, c, met)
		for _, mv := range moves {
			w.move(t, mv)
		}
		w.wantOver(t)
	})
	want := []string{
		"a cell", "a stack", "a queue", "a set", "a table", "objects that all hold something", "keys whose buckets don't rise",
		"a mark in the list", "a mark in a bucket", "a Tail that is behind", "a slot that another object had", "an access to a slot that is retired",
	}
	for what, answers := range map[string][]string{
		"a take": {"a value", "full"}, "a give": {"done"}, "a flush": {"done"}, "a register": {"a value", "full"}, "an unregister": {"done"},
		"a post": {"done", "full"}, "a read": {"a value", "empty"}, "a clear": {"done"}, "a scan": {"done"},
		"a push": {"done", "full"}, "a pop": {"a value", "empty"}, "an enqueue": {"done", "full"}, "a dequeue": {"a value", "empty"},
		"an insert": {"yes", "no", "full"}, "a delete": {"yes", "no"}, "a contains": {"yes", "no"},
		"an add": {"yes", "no", "full"}, "a remove": {"a value", "no"}, "a get": {"a value", "no"},
	} {
		for _, answer := range answers {
			want = append(want, what+" that answers "+answer)
		}
	}
	for _, what := range []string{"a post", "a pop", "an enqueue", "a dequeue", "an insert", "a delete", "an add", "a remove"} {
		want = append(want, what+" that has its point and goes on")
	}
	wantMet(t, met, want...)
}

// The same of two calls of unlike objects, or of the same one, by two threads over one arena that has hardly
// a slot left: the first one is cut at each of its steps by the second one, whole or cut in its turn.
func TestRulesOfCutCalls(t *testing.T) {
	calls := []api.Move{
		move(0, api.OpPost, 5), move(0, api.OpRead, 0), move(0, api.OpPush, 5), move(0, api.OpPop, 0), move(0, api.OpEnqueue, 5), move(0, api.OpDequeue, 0),
		move(0, api.OpInsert, 5), move(0, api.OpDelete, 4), move(0, api.OpContains, 4), add(0, 5, 50), move(0, api.OpRemove, 4), move(0, api.OpGet, 4),
		move(0, api.OpTake, 0), move(0, api.OpScan, 0), move(0, api.OpUnregister, 0),
	}
	met := map[string]int{}
	for _, slots := range []int{6, 8} {
		for _, one := range calls {
			for _, other := range calls {
				for cut := range 20 {
					w := watchOf(t, configOf(2, 2, 1, cut%2, slots, 2), met)
					for _, mv := range []api.Move{register(0), register(1), move(0, api.OpPost, 1), move(0, api.OpPush, 2), move(0, api.OpEnqueue, 3), move(0, api.OpInsert, 4), add(0, 4, 40)} {
						w.twin.Move(mv)
						w.m.Move(mv)
						for w.m.Busy(mv.Thread) {
							w.twin.Move(step(mv.Thread))
							w.m.Move(step(mv.Thread))
						}
					}
					w.catchUp()
					other.Thread = 1
					w.move(t, one)
					w.times(t, 0, cut)
					w.move(t, other)
					w.times(t, 1, 3+cut*7%20)
					w.wantOver(t)
				}
			}
		}
	}
}

// catchUp takes what both machines have done so far for granted.
func (w *watch) catchUp() {
	w.run = w.m.Run()
	for slot := range w.states {
		w.states[slot], w.holders[slot], _ = w.a.State(slot)
	}
}

// times lets a thread make so many steps, or fewer if its call ends.
func (w *watch) times(t *testing.T, thread, count int) {
	t.Helper()
	for range count {
		if !w.m.Busy(thread) {
			return
		}
		w.move(t, step(thread))
	}
}
