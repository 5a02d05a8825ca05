package census_test

import (
	"slices"
	"testing"

	"reclaim/api"
	"reclaim/arena"
	"reclaim/census"
	"reclaim/hazard"
	"reclaim/list"
	"reclaim/machine"
	"reclaim/pool"
	"reclaim/queue"
	"reclaim/stack"
	"reclaim/table"
	"reclaim/word"
)

// layer is a package whose scripts are run.
type layer struct {
	name string
	used int
	play func(c api.Config, moves []api.Move) (api.Run, api.Errno)
	ops  []api.Op // most calls are of these
}

var layers = []layer{
	{"arena", 0, arena.Play, []api.Op{api.OpTake, api.OpGive, api.OpFlush}},
	{"hazard", 0, hazard.Play, []api.Op{api.OpPost, api.OpPost, api.OpRead, api.OpClear, api.OpScan}},
	{"stack", 0, stack.Play, []api.Op{api.OpPush, api.OpPop}},
	{"queue", 1, queue.Play, []api.Op{api.OpEnqueue, api.OpDequeue}},
	{"list", 0, list.Play, []api.Op{api.OpInsert, api.OpInsert, api.OpDelete, api.OpContains}},
	{"table", 0, table.Play, []api.Op{api.OpAdd, api.OpAdd, api.OpRemove, api.OpGet}},
	{"pool", 1, pool.Play, []api.Op{
		api.OpPost, api.OpRead, api.OpPush, api.OpPop, api.OpEnqueue, api.OpDequeue, api.OpInsert, api.OpDelete, api.OpContains,
		api.OpAdd, api.OpRemove, api.OpGet, api.OpTake, api.OpGive, api.OpFlush, api.OpClear, api.OpScan,
	}},
}

func step(thread int) api.Move { return api.Move{Thread: thread, Op: api.OpStep} }

// script is so many moves of a layer's calls. Threads make a few steps at a time, so that calls stay on their way for
// others to come by; some make many, so that calls come to their ends.
func (d *dice) script(c api.Config, l layer, count int) []api.Move {
	var moves []api.Move
	for thread := range c.Threads {
		moves = append(moves, api.Move{Thread: thread, Op: api.OpRegister})
		moves = append(moves, slices.Repeat([]api.Move{step(thread)}, 2*c.Records)...)
	}
	steps := 1 + d.below(12)
	for len(moves) < count {
		thread := d.below(c.Threads)
		if d.often(6) {
			moves = append(moves, d.begin(c, l, thread))
		}
		n := 1 + d.below(steps)
		if d.below(12) == 0 {
			n *= 6
		}
		moves = append(moves, slices.Repeat([]api.Move{step(thread)}, n)...)
	}
	return moves[:count]
}

// begin is a call; whoever is told so registers, and seldom leaves.
func (d *dice) begin(c api.Config, l layer, thread int) api.Move {
	mv := api.Move{Thread: thread, Op: l.ops[d.below(len(l.ops))], Arg: d.below(6), Data: d.below(100)}
	switch d.below(30) {
	case 0:
		mv.Op = api.OpUnregister
	case 1, 2, 3:
		mv.Op = api.OpRegister
	case 4:
		mv.Op = api.OpScan
	}
	if mv.Op == api.OpGive {
		mv.Arg = d.below(c.Slots)
	}
	return mv
}

func (d *dice) config() api.Config {
	return configOf(1+d.below(5), 1+d.below(5), 3+d.below(2), 1+d.below(6), d.below(4), 1+d.below(12), 1+d.below(3))
}

// played is the run of a script, as a tale.
func (l layer) played(t *testing.T, c api.Config, moves []api.Move) *tale {
	t.Helper()
	r, e := l.play(c, moves)
	if e != api.OK {
		t.Fatalf("%s: Play(%+v) = %d", l.name, c, e)
	}
	return &tale{c: c, used: l.used, r: r}
}

// wantKept asks for what runs keep.
func (x *tale) wantKept(t *testing.T, what string) api.Peaks {
	t.Helper()
	x.wantMay(t, what, true)
	x.wantFaults(t, what)
	x.wantDishonest(t, what)
	p, e := census.Peaks(x.c, x.used, x.r)
	retired, _ := census.Retired(x.c)
	window, _ := census.Window(x.c)
	if e != api.OK || p.Retired > retired || p.Detached > x.c.Threads || p.Gap >= window {
		t.Errorf("%s: %+v has %+v, %d", what, x.c, p, e)
	}
	return p
}

// P13.7: chance runs of all layers; and that they have what could break it.
func TestRunsKeep(t *testing.T) {
	d := dice(71)
	for _, l := range layers {
		var most api.Peaks
		fulls, held := 0, 0
		for range 500 {
			c := d.config()
			x := l.played(t, c, d.script(c, l, d.below(1200)))
			p := x.wantKept(t, l.name)
			most.Cached, most.Owned, most.Linked = max(most.Cached, p.Cached), max(most.Owned, p.Owned), max(most.Linked, p.Linked)
			most.Detached, most.Retired, most.Gap = max(most.Detached, p.Detached), max(most.Retired, p.Retired), max(most.Gap, p.Gap)
			for _, c := range x.r.Calls {
				if c.Answer == full && (c.Point >= 0 || c.Op == api.OpTake) {
					fulls++
				}
			}
			held += x.naming()
			if t.Failed() {
				t.FailNow()
			}
		}
		if fulls < 50 || most.Cached < 2 || most.Owned < 3 || most.Gap < 8 {
			t.Errorf("%s: only %+v, %d times full", l.name, most, fulls)
		}
		if l.name != "arena" && (most.Linked < 3 && l.name != "hazard" || most.Retired < 4 || most.Gap < 30 || held < 100) {
			t.Errorf("%s: only %+v, %d times named", l.name, most, held)
		}
	}
}

// naming is how often a hazard came to name a slot.
func (x *tale) naming() int {
	count := 0
	for _, a := range x.r.Trace {
		if place, _ := word.At(x.c, a.Addr); place.Region == api.RegionHazard && a.Kind == api.AccessStore && a.New != 0 {
			count++
		}
	}
	return count
}

// P13.1 to P13.5: of short runs of all layers, whole and spoilt, all is as the chapter's words tell it.
func TestRunsPlain(t *testing.T) {
	d := dice(72)
	for _, l := range layers {
		for range 25 {
			c := d.config()
			x := l.played(t, c, d.script(c, l, 40+d.below(160)))
			if !x.wantPlain(t, -1, 0, d.below(200), greatest) {
				t.Fatalf("%s: %+v doesn't go together", l.name, x.r)
			}
			for range 8 {
				d.spoilt(x).wantPlain(t, d.below(200))
			}
			if t.Failed() {
				t.FailNow()
			}
		}
	}
}

// onItsWay is a thread's call that has not ended ahead of a move; false: there is none.
func onItsWay(r api.Run, thread, move int) (api.Call, bool) {
	for _, c := range r.Calls {
		if c.Thread == thread && c.Begin < move && (c.End == -1 || c.End >= move) {
			return c, true
		}
	}
	return api.Call{}, false
}

// P13.7: a thread that is alone from some move on ends its call within Solo steps.
func TestSolo(t *testing.T) {
	d := dice(73)
	for _, l := range layers {
		alone, longest := 0, 0
		for range 400 {
			c := d.config()
			moves := d.script(c, l, d.below(500))
			thread := d.below(c.Threads)
			solo, _ := census.Solo(c)
			x := l.played(t, c, slices.Concat(moves, slices.Repeat([]api.Move{step(thread)}, solo)))
			call, busy := onItsWay(x.r, thread, len(moves))
			if !busy {
				continue
			}
			if call.End == -1 {
				t.Fatalf("%s: %+v has not ended behind %d steps alone", l.name, call, solo)
			}
			alone, longest = alone+1, max(longest, call.End+1-len(moves))
			x.wantKept(t, l.name)
		}
		if alone < 50 || longest < 4 {
			t.Errorf("%s: only %d that were on their way, %d steps alone", l.name, alone, longest)
		}
	}
}

// stretch is what a stretch of steps has in which no call ends.
type stretch struct {
	steps   int
	heads   int                 // changes of Free
	others  int                 // changes of the other words by which a loop is sent back
	taken   [api.MaxThreads]int // of each thread, the slots that it took
	retired int
	back    int // slots given back from retired lists
}

// wantEnough asks a stretch for what makes Window enough.
func (s *stretch) wantEnough(t *testing.T, what string, c api.Config) {
	t.Helper()
	retired, _ := census.Retired(c)
	window, _ := census.Window(c)
	may := s.steps < window && s.heads <= 5*c.Threads+c.Threads*c.Cache+retired && s.others <= 3*c.Threads+1 &&
		slices.Max(s.taken[:]) <= 1 && s.retired <= 2*c.Threads && s.back <= retired+2*c.Threads
	if !may {
		t.Errorf("%s: %+v has a stretch of %+v", what, c, *s)
	}
}

func (s *stretch) access(c api.Config, a api.Access) {
	s.steps++
	if a.Kind != api.AccessSwap || a.Saw != a.Old {
		return
	}
	switch place, _ := word.At(c, a.Addr); place.Region {
	case api.RegionFree:
		s.heads++
	case api.RegionActive:
	default:
		s.others++
	}
}

func (s *stretch) shift(x api.Shift) {
	switch {
	case x.To == owned:
		s.taken[x.Thread]++
	case x.To == retired:
		s.retired++
	case x.From == retired:
		s.back++
	}
}

// eachStretch goes through a run's stretches.
func (x *tale) eachStretch(do func(s *stretch)) {
	var ends []int
	for _, c := range x.r.Calls {
		if c.End >= 0 {
			ends = append(ends, c.End)
		}
	}
	slices.Sort(ends)
	trace, shifts := x.r.Trace, x.r.Shifts
	for _, end := range append(ends, greatest) {
		var s stretch
		for ; len(trace) > 0 && trace[0].Move < end; trace = trace[1:] {
			s.access(x.c, trace[0])
		}
		for ; len(shifts) > 0 && shifts[0].Move < end; shifts = shifts[1:] {
			s.shift(shifts[0])
		}
		do(&s)
		for len(trace) > 0 && trace[0].Move == end {
			trace = trace[1:]
		}
		for len(shifts) > 0 && shifts[0].Move == end {
			shifts = shifts[1:]
		}
	}
}

// P13.8: in a stretch in which no call ends, what the window is counted by is so.
func TestStretches(t *testing.T) {
	d := dice(74)
	for _, l := range layers {
		var most stretch
		for range 200 {
			c := d.config()
			c.Threads = 3 + d.below(14)
			c.Slots = 4 + d.below(40)
			x := l.played(t, c, d.script(c, l, 600+d.below(2000)))
			x.eachStretch(func(s *stretch) {
				s.wantEnough(t, l.name, c)
				most.steps, most.heads, most.others = max(most.steps, s.steps), max(most.heads, s.heads), max(most.others, s.others)
			})
			if t.Failed() {
				t.FailNow()
			}
		}
		if most.steps < 15 || most.heads < 1 || l.name != "arena" && (most.steps < 50 || most.heads < 3 || most.others < 2) {
			t.Errorf("%s: only stretches of %+v", l.name, most)
		}
	}
}

// hold is a script of a pool in which each thread is held ahead of the step that would end its call till all are.
type hold struct {
	*dice
	c     api.Config
	moves []api.Move
	m     *machine.Machine // which has made the moves
}

// try makes a move, unless a call ends by it; it tells whether none does.
func (h *hold) try(mv api.Move) bool {
	h.m.Move(mv)
	if mv.Op == api.OpStep && !h.m.Busy(mv.Thread) {
		h.m, _ = pool.New(h.c)
		for _, made := range h.moves {
			h.m.Move(made)
		}
		return false
	}
	h.moves = append(h.moves, mv)
	return true
}

// round lets all threads begin a call, brings each to its last step, and then to its end.
func (h *hold) round(l layer) {
	var going []int
	for thread := range h.c.Threads {
		if h.try(h.begin(h.c, l, thread)); h.m.Busy(thread) {
			going = append(going, thread)
		}
	}
	for len(going) > 0 {
		i := h.below(len(going))
		if !h.try(step(going[i])) {
			going = slices.Delete(going, i, i+1)
		}
	}
	for thread := range h.c.Threads {
		for h.m.Busy(thread) {
			h.m.Move(step(thread))
			h.moves = append(h.moves, step(thread))
		}
	}
}

// P13.7, P13.8: the longest stretches that there are easily: those in which each call is held ahead of its last step.
func TestLongStretches(t *testing.T) {
	d := dice(75)
	for _, l := range layers[1:] {
		var most stretch
		for range 40 {
			c := d.config()
			c.Threads, c.Records, c.Slots = 3+d.below(6), 3+d.below(4), 5+d.below(12)
			h := &hold{dice: &d, c: c, moves: d.script(c, l, 100+d.below(200))}
			h.m, _ = pool.New(c)
			for _, mv := range h.moves {
				h.m.Move(mv)
			}
			for range 6 {
				h.round(l)
			}
			x := &tale{c: c, used: 1, r: h.m.Run()}
			x.wantKept(t, l.name)
			x.eachStretch(func(s *stretch) {
				s.wantEnough(t, l.name, c)
				most.steps, most.heads, most.others = max(most.steps, s.steps), max(most.heads, s.heads), max(most.others, s.others)
			})
			if t.Failed() {
				t.FailNow()
			}
		}
		if most.steps < 70 || most.heads < 3 || most.others < 3 {
			t.Errorf("%s: only stretches of %+v", l.name, most)
		}
	}
}
