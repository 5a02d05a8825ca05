package hazard_test

import (
	"math"
	"slices"
	"testing"

	"reclaim/api"
	"reclaim/arena"
	"reclaim/hazard"
)

// P5.1: over an arena; no record is taken, all lists are empty.
func TestNew(t *testing.T) {
	for _, c := range []api.Config{example(), configOf(1, 1, 1, 0, 1), configOf(16, 16, 1024, 64, 1024)} {
		a := arenaOf(t, c)
		h := hazard.New(a)
		if h.Arena() != a {
			t.Error("another arena")
		}
		for thread := range c.Threads {
			if h.Record(thread) != -1 || h.Addr(thread, 0) != -1 {
				t.Errorf("thread %d holds a record", thread)
			}
		}
		for record := range c.Records {
			if l := h.List(record); len(l) != 0 {
				t.Errorf("List(%d) = %v", record, l)
			}
		}
	}
}

// P5.1: over an arena that has slots in use, too.
func TestNewOverUsed(t *testing.T) {
	a, _ := arena.New(example(), 2)
	if h := hazard.New(a); h.Arena() != a || len(h.Kit()) != 6 || a.Count(api.StateLinked) != 2 {
		t.Error("not as over others")
	}
}

// absent are hazards that have nothing: those that New didn't make, and those over what is no arena.
func absent() map[string]*hazard.Hazards {
	return map[string]*hazard.Hazards{
		"nil hazards": nil, "the zero hazards": {},
		"over a nil arena": hazard.New(nil), "over the zero arena": hazard.New(&arena.Arena{}),
	}
}

// P5.1, P5.5 and P9.
func TestAbsentHazards(t *testing.T) {
	if hazard.New(nil) == nil || hazard.New(&arena.Arena{}) == nil {
		t.Error("New answers nil")
	}
	for what, h := range absent() {
		if h.Arena() != nil || len(h.Kit()) != 0 {
			t.Errorf("%s: an arena, or calls", what)
		}
		for _, n := range []int{0, 1, -1, math.MinInt, math.MaxInt} {
			if h.Record(n) != -1 || len(h.List(n)) != 0 || h.Addr(n, 0) != -1 || h.Addr(0, n) != -1 {
				t.Errorf("%s: %d: %d, %v, %d, %d", what, n, h.Record(n), h.List(n), h.Addr(n, 0), h.Addr(0, n))
			}
		}
	}
}

// P5.2: Record of threads with and without a record, and of those that there aren't.
func TestRecord(t *testing.T) {
	y := yardOf(t, configOf(3, 2, 1, 0, 3))
	y.calls(t, register(2), register(0))
	y.wantRecord(t, 0, 1)
	y.wantRecord(t, 1, -1)
	y.wantRecord(t, 2, 0)
	for _, thread := range []int{-1, 3, 16, math.MinInt, math.MaxInt} {
		y.wantRecord(t, thread, -1)
	}
	y.call(t, unregister(2))
	y.wantRecord(t, 2, -1)
	y.wantRecord(t, 0, 1)
}

// P5.2: List of records with slots and without, and of those that there aren't.
func TestList(t *testing.T) {
	y := yardOf(t, configOf(2, 3, 8, 0, 9))
	y.calls(t, register(0), register(1))
	y.taken(t, 1, 6)
	y.retired(t, 1, 4, 1, 5)
	y.wantList(t, 0)
	y.wantList(t, 1, 4, 1, 5)
	y.wantList(t, 2)
	for _, record := range []int{-1, 3, 16, math.MinInt, math.MaxInt} {
		y.wantList(t, record)
	}
}

// P5.2: Addr of each hazard of each record, and of those that there aren't.
func TestAddr(t *testing.T) {
	c := configOf(3, 2, 1, 0, 3)
	c.Hazards, c.Buckets = 5, 4
	y := yardOf(t, c)
	y.calls(t, register(2), register(1))
	// Free, the cell and four words more; 4 buckets; 2 active words.
	for k := range 5 {
		if y.Addr(2, k) != 12+k || y.Addr(1, k) != 17+k || y.Addr(0, k) != -1 {
			t.Errorf("hazard %d: %d, %d, %d", k, y.Addr(2, k), y.Addr(1, k), y.Addr(0, k))
		}
	}
	for _, n := range []int{-1, 5, 6, math.MinInt, math.MaxInt} {
		if y.Addr(2, n) != -1 || y.Addr(1, n) != -1 || y.Addr(n, 0) != -1 || y.Addr(n, n) != -1 {
			t.Errorf("%d: %d, %d, %d", n, y.Addr(2, n), y.Addr(1, n), y.Addr(n, 0))
		}
	}
	if y.Addr(3, 0) != -1 {
		t.Error("a thread that there isn't")
	}
	y.call(t, unregister(1))
	if y.Addr(1, 0) != -1 {
		t.Error("behind its unregistering")
	}
}

// P6: a list that List has answered may be written into and put behind while the hazards go on.
func TestListsApart(t *testing.T) {
	y := yardOf(t, configOf(2, 2, 5, 0, 12))
	y.calls(t, register(0), register(1))
	y.taken(t, 0, 10)
	want := []int{}
	for _, slot := range []int{3, 1, 4, 0} {
		y.retired(t, 0, slot)
		want = append(want, slot)
		kept, other := y.List(0), y.List(0)
		for i, spoiled := 0, append(kept, -7); i < len(spoiled); i++ {
			spoiled[i] = -9
		}
		for i, spare := 0, kept[:cap(kept)]; i < len(spare); i++ {
			spare[i] = -8
		}
		y.wantList(t, 0, want...)
		if !slices.Equal(other, want) {
			t.Errorf("another answer is %v", other)
		}
	}
	kept, room := y.List(0), y.List(0)
	y.calls(t, post(1, 5), read(1, 0))
	y.retired(t, 0, 5)
	y.wantList(t, 0)
	room = append(room[:1], -5, -6)
	y.retired(t, 0, 6, 7, 8)
	y.wantList(t, 0, 6, 7, 8)
	if !slices.Equal(kept, []int{3, 1, 4, 0}) || !slices.Equal(room, []int{3, -5, -6}) {
		t.Errorf("answers from ahead are %v, %v", kept, room)
	}
}

// P6: what a helping scan takes over shares nothing with the list that the other record has later.
func TestAdoptedListsApart(t *testing.T) {
	y := yardOf(t, configOf(3, 2, 9, 0, 12))
	y.calls(t, register(0), register(1))
	y.taken(t, 1, 8)
	y.retired(t, 1, 2, 3)
	// Thread 0 names what thread 1 leaves.
	y.calls(t, poked(0, y.Addr(0, 0), link(2)), poked(0, y.Addr(0, 1), link(3)), unregister(1))
	y.wantList(t, 1, 2, 3)
	left := y.List(1)
	y.call(t, scan(0))
	y.wantList(t, 0, 2, 3)
	y.wantList(t, 1)
	y.call(t, register(1))
	y.retired(t, 1, 6, 7)
	y.wantList(t, 1, 6, 7)
	y.wantList(t, 0, 2, 3)
	y.taken(t, 0, 1)
	y.retired(t, 0, 8)
	y.wantList(t, 0, 2, 3, 8)
	y.wantList(t, 1, 6, 7)
	if !slices.Equal(left, []int{2, 3}) {
		t.Errorf("an answer from ahead is %v", left)
	}
}

// poked is the move that stores a word at an address.
func poked(thread, addr int, w uint64) api.Move {
	if addr < 0 {
		panic("an address that there isn't")
	}
	return api.Move{Thread: thread, Op: opPoke, Arg: addr, Data: int(w)}
}

// P6: a kit is a new map; what is handed in is left as it is; runs share nothing.
func TestKitsAndRunsApart(t *testing.T) {
	h := hazard.New(arenaOf(t, example()))
	clear(h.Kit())
	if len(h.Kit()) != 6 {
		t.Error("a kit is shared")
	}
	for what, h := range absent() {
		kit := h.Kit()
		if kit == nil {
			continue
		}
		kit[api.OpScan] = nil
		if len(h.Kit()) != 0 {
			t.Errorf("%s: a kit is shared", what)
		}
	}
	room := append(make([]api.Move, 0, 99), examples(5)...)
	copied := slices.Clone(room[:cap(room)])
	r := playOf(t, example(), room...)
	if !slices.Equal(room[:cap(room)], copied) {
		t.Error("the moves are changed")
	}
	first := playOf(t, example(), room...)
	for i := range r.Words {
		r.Words[i] = 99
	}
	r.Calls[0], r.Trace[0], r.Shifts[0] = api.Call{}, api.Access{}, api.Shift{}
	length := len(room)
	room[0] = api.Move{}
	wantRun(t, playOf(t, example(), copied[:length]...), first)
}

// P6: two hazards of one configuration share nothing.
func TestHazardsApart(t *testing.T) {
	c := configOf(2, 2, 9, 1, 4)
	one, other := yardOf(t, c), yardOf(t, c)
	one.calls(t, register(0), post(0, 1), post(0, 2))
	one.wantList(t, 0, 0)
	other.wantRecord(t, 0, -1)
	other.wantList(t, 0)
	other.call(t, register(1))
	other.wantRecord(t, 1, 0)
	one.wantRecord(t, 1, -1)
	if got := other.call(t, read(1, 0)); got.Answer != empty {
		t.Errorf("%+v", got)
	}
}
