package hazard_test

import (
	"cmp"
	"slices"
	"testing"

	"reclaim/api"
)

// dice are the same numbers each time.
type dice uint64

func (d *dice) below(n int) int {
	*d = *d*6364136223846793005 + 1442695040888963407
	return int(uint64(*d) >> 33 % uint64(n))
}

// chanceMoves are moves of the six calls, of the arena's take and flush in some scripts, and others;
// steps come several at a time in some scripts, so that calls end, and one by one in others, so that
// they meet.
func chanceMoves(d *dice, c api.Config, count int) []api.Move {
	takes, burst := d.below(4) == 0, 1+d.below(3)*d.below(4)
	var moves []api.Move
	for thread := range c.Threads {
		moves = append(moves, register(thread), step(thread), step(thread))
	}
	for len(moves) < count {
		thread := d.below(c.Threads)
		if d.below(60) == 0 {
			thread = c.Threads - (c.Threads+1)*d.below(2)
		}
		switch roll := d.below(30); {
		case roll < 2:
			moves = append(moves, register(thread))
		case roll < 6:
			moves = append(moves, post(thread, d.below(9)))
		case roll < 9:
			moves = append(moves, read(thread, d.below(c.Hazards+2)-1))
		case roll == 9:
			moves = append(moves, clearing(thread, d.below(c.Hazards+2)-1))
		case roll == 10:
			moves = append(moves, scan(thread))
		case roll == 11 && d.below(2) == 0:
			moves = append(moves, unregister(thread))
		case roll == 12 && takes:
			moves = append(moves, api.Move{Thread: thread, Op: api.OpTake + api.Op(2*d.below(2))})
		default:
			moves = append(moves, slices.Repeat([]api.Move{step(thread)}, 1+d.below(burst))...)
		}
	}
	return moves[:count]
}

// eachChance goes through scripts over hazards of many sizes.
func eachChance(count int, do func(c api.Config, moves []api.Move)) {
	d := dice(7)
	for range count {
		c := configOf(1+d.below(4), 1+d.below(4), 1+d.below(4), d.below(3), 1+d.below(12))
		c.Buckets, c.Hazards = 1+d.below(3), 3+d.below(2)
		do(c, chanceMoves(&d, c, d.below(900)))
	}
}

// watch holds a yard against P5.6 behind every move.
type watch struct {
	*yard
	run     api.Run     // as it was behind the move ahead
	states  []api.State // likewise
	records []int       // likewise: of each thread
	pending map[int]int // the slots that are Retired and in no list, with the thread that gives them
	since   map[int]int // of each hazard word 1, if its slot has been Linked since it was written
	met     map[string]int
}

func watchOf(t *testing.T, c api.Config, met map[string]int) *watch {
	y := yardOf(t, c)
	return &watch{
		yard: y, run: y.m.Run(), states: make([]api.State, c.Slots),
		records: slices.Repeat([]int{-1}, c.Threads),
		pending: map[int]int{}, since: map[int]int{}, met: met,
	}
}

// all is Records * Hazards.
func (w *watch) all() int { return w.c.Records * w.c.Hazards }

// most is how long a list may be between calls, and with one more, at any time by its own thread.
func (w *watch) most() int { return max(w.c.Retire, w.all()+1) }

// move makes a move, and asks for all rules.
func (w *watch) move(t *testing.T, mv api.Move) {
	t.Helper()
	ahead := w.run
	w.m.Move(mv)
	w.run = w.m.Run()
	w.noteAccess(w.run.Trace[len(ahead.Trace):])
	w.wantGivenWell(t, w.run.Shifts[len(ahead.Shifts):])
	w.notePending(t, mv.Thread)
	w.wantApart(t)
	w.wantShort(t)
	w.wantLeft(t)
	w.wantScanned(t, mv.Thread)
	w.wantCell(t)
	for thread := range w.c.Threads {
		w.records[thread] = w.Record(thread)
	}
}

// firstHazard is the address of the first one.
func (w *watch) firstHazard() int { return w.addr(api.RegionHazard, 0, 0) }

func (w *watch) isHazard(addr int) bool {
	return addr >= w.firstHazard() && addr < w.firstHazard()+w.all()
}

// noteAccess notes which hazards were written, and what else chance has met.
func (w *watch) noteAccess(made []api.Access) {
	for _, a := range made {
		failed := a.Kind == api.AccessSwap && a.Saw != a.Old
		switch {
		case a.Kind == api.AccessStore && w.isHazard(a.Addr):
			w.since[a.Addr] = 0
			if a.New != 0 && w.states[int(a.New)-1] == api.StateLinked {
				w.since[a.Addr] = 1
			}
		case failed && a.Addr == 1:
			w.met["a post that is overtaken"]++
		case failed && a.Addr != 0 && w.records[a.Thread] >= 0:
			w.met["a help that is overtaken"]++
		case failed && a.Addr != 0:
			w.met["a register that is overtaken"]++
		}
	}
}

// wantGivenWell is (3): what is given back is named by no hazard that has named it since it was
// Linked.
func (w *watch) wantGivenWell(t *testing.T, shifts []api.Shift) {
	t.Helper()
	for _, s := range shifts {
		for i := range w.all() {
			addr := w.firstHazard() + i
			if w.run.Words[addr] != link(s.Slot) {
				continue
			}
			switch {
			case s.To == api.StateLinked:
				w.since[addr] = 1
			case s.From == api.StateRetired && w.since[addr] == 1:
				t.Fatalf("%+v, but the hazard at %d names it", s, addr)
			}
		}
		if w.states[s.Slot] != s.From {
			t.Fatalf("%+v, but it is %d", s, w.states[s.Slot])
		}
		w.states[s.Slot] = s.To
		if s.From == api.StateRetired {
			w.met["a slot that is given back"]++
		}
	}
}

// notePending asks that each Retired slot is in one list, once, or pending, and no other slot is.
func (w *watch) notePending(t *testing.T, thread int) {
	t.Helper()
	listed := map[int]int{}
	for record := range w.c.Records {
		for _, slot := range w.List(record) {
			listed[slot]++
		}
	}
	for slot := range w.c.Slots {
		state, _, _ := w.a.State(slot)
		_, waits := w.pending[slot]
		switch {
		case listed[slot] > 1, listed[slot] == 1 && (waits || state != api.StateRetired):
			t.Fatalf("slot %d is %d, %d times in lists, pending: %v", slot, state, listed[slot], waits)
		case listed[slot] == 0 && state == api.StateRetired && !waits:
			w.pending[slot] = thread
		case state != api.StateRetired:
			delete(w.pending, slot)
		}
	}
}

// wantApart is (1), and that the active words tell who holds a record.
func (w *watch) wantApart(t *testing.T) {
	t.Helper()
	holder := map[int]int{}
	for thread := range w.c.Threads {
		record := w.Record(thread)
		if record < 0 {
			continue
		}
		if other, ok := holder[record]; ok || record >= w.c.Records {
			t.Fatalf("threads %d and %d hold record %d", other, thread, record)
		}
		holder[record] = thread
		if w.run.Words[w.addr(api.RegionActive, record, 0)] != 1 {
			t.Fatalf("thread %d holds record %d, which is not active", thread, record)
		}
	}
}

// wantShort is (2): how long lists are, between calls and at any time.
func (w *watch) wantShort(t *testing.T) {
	t.Helper()
	for thread := range w.c.Threads {
		record := w.Record(thread)
		if record < 0 {
			continue
		}
		length := len(w.List(record))
		if !w.m.Busy(thread) && length >= w.most() {
			t.Fatalf("List(%d) = %v between calls", record, w.List(record))
		}
		for _, by := range w.pending {
			if by == thread {
				length++
			}
		}
		if length > w.most()+(w.c.Records-1)*w.all() {
			t.Fatalf("%d slots are with record %d", length, record)
		}
	}
}

// wantLeft is (4): the list of a record that nobody holds has at most A slots, and its hazards name
// nothing.
func (w *watch) wantLeft(t *testing.T) {
	t.Helper()
	for record := range w.c.Records {
		if w.held(record) {
			continue
		}
		if len(w.List(record)) > w.all() {
			t.Fatalf("nobody holds record %d, and its list is %v", record, w.List(record))
		}
		if len(w.List(record)) > 0 {
			w.met["a list that nobody has"]++
		}
		for k := range w.c.Hazards {
			if w.run.Words[w.addr(api.RegionHazard, record, k)] != 0 {
				t.Fatalf("nobody holds record %d, and its hazard %d names something", record, k)
			}
		}
	}
}

func (w *watch) held(record int) bool {
	for thread := range w.c.Threads {
		if w.Record(thread) == record {
			return true
		}
	}
	return false
}

// wantScanned is (2) of a scan that has ended: at most A slots are left, those that were named when
// it looked; no other ones are.
func (w *watch) wantScanned(t *testing.T, thread int) {
	t.Helper()
	call, known := w.m.Call(thread)
	if !known || call.End != w.m.Moves()-1 {
		return
	}
	var looked []uint64
	for _, a := range w.run.Trace {
		if a.Thread == thread && a.Move > call.Begin && a.Kind == api.AccessLoad && w.isHazard(a.Addr) {
			looked = append(looked, a.Saw)
		}
	}
	left := w.List(w.records[thread])
	switch {
	case len(looked) == 0 && (call.Op == api.OpScan || call.Op == api.OpUnregister) && len(left) > 0:
		t.Fatalf("%+v hasn't looked, and left %v", call, left)
	case len(looked) == 0:
		return
	case len(looked) != w.all() || len(left) > w.all():
		t.Fatalf("%+v has looked %d times, and left %v", call, len(looked), left)
	}
	for _, slot := range left {
		w.met["a slot that is kept"]++
		if !slices.Contains(looked, link(slot)) {
			t.Fatalf("%+v saw %v, and left %v", call, looked, left)
		}
	}
	for _, s := range w.run.Shifts {
		if s.Thread == thread && s.Move > call.Begin && s.From == api.StateRetired && slices.Contains(looked, link(s.Slot)) {
			t.Fatalf("%+v saw %v, and gave %d", call, looked, s.Slot)
		}
	}
	if slots := w.pendingOf(thread); len(slots) > 0 {
		t.Fatalf("%+v has ended, and %v are pending", call, slots)
	}
}

func (w *watch) pendingOf(thread int) []int {
	var slots []int
	for slot, by := range w.pending {
		if by == thread {
			slots = append(slots, slot)
		}
	}
	return slots
}

// wantCell is (5), and that just the calls of the cell have points, each within its time.
func (w *watch) wantCell(t *testing.T) {
	t.Helper()
	var calls []api.Call
	for _, c := range w.run.Calls {
		onCell := c.Op == api.OpPost || c.Op == api.OpRead
		switch {
		case c.Point < 0 && (c.End < 0 || !onCell):
		case !onCell, c.Point <= c.Begin, c.End >= 0 && c.Point > c.End, c.End < 0 && c.Op == api.OpRead:
			t.Fatalf("%+v", c)
		default:
			calls = append(calls, c)
		}
	}
	slices.SortFunc(calls, func(a, b api.Call) int { return cmp.Compare(a.Point, b.Point) })
	cell := empty
	for _, c := range calls {
		switch {
		case c.Answer == full && c.Op == api.OpPost:
			w.met["a post that finds no slot"]++
		case c.Op == api.OpPost && (c.Answer == done || c.End < 0):
			cell = value(c.Arg)
		case c.Op == api.OpPost, c.Answer != cell:
			t.Fatalf("%+v, but the cell has %+v", c, cell)
		case cell == empty:
			w.met["a read of an empty cell"]++
		}
	}
	left := empty
	if slot := int(w.run.Words[1]) - 1; slot >= 0 {
		left = value(int(w.run.Words[w.addr(api.RegionValue, slot, 0)]))
	}
	if left != cell {
		t.Fatalf("the words have %+v, the calls leave %+v", left, cell)
	}
}

// P5.6: behind every move of chance scripts, which meet all that there is to meet.
func TestRules(t *testing.T) {
	met := map[string]int{}
	eachChance(250, func(c api.Config, moves []api.Move) {
		w := watchOf(t, c, met)
		for _, mv := range moves {
			w.move(t, mv)
		}
	})
	for _, what := range []string{
		"a post that is overtaken", "a help that is overtaken", "a register that is overtaken",
		"a slot that is given back", "a slot that is kept", "a list that nobody has",
		"a post that finds no slot", "a read of an empty cell",
	} {
		if met[what] == 0 {
			t.Errorf("no script comes to %s", what)
		}
	}
}
