package mcas_test

import (
	"iter"
	"testing"

	"reclaim/api"
)

// plain is the machine told in the simplest way: each call is straight code that waits ahead of its accesses.
type plain struct {
	c       api.Multi
	run     api.Run
	moves   int
	busy    []*going
	begun   []int
	puts    []int
	decided map[int]int
	met     map[string]int
}

// going is a call on its way.
type going struct {
	call  int
	first bool
	next  func() (struct{}, bool)
	stop  func()
}

func plainOf(c api.Multi) *plain {
	p := &plain{
		c: c, run: api.Run{Words: make([]uint64, sizeOf(c))}, busy: make([]*going, c.Threads), begun: make([]int, c.Threads),
		puts: make([]int, c.Threads), decided: map[int]int{}, met: map[string]int{},
	}
	for i, v := range c.Cells {
		p.run.Words[i] = uint64(4 * v)
	}
	return p
}

func (p *plain) move(mv api.Move) {
	if p.moves == api.MaxMoves {
		return
	}
	p.moves++
	if mv.Thread < 0 || mv.Thread >= p.c.Threads {
		return
	}
	g := p.busy[mv.Thread]
	switch {
	case mv.Op == api.OpStep && g != nil:
		p.step(mv.Thread, g)
	case g != nil:
	case mv.Op == api.OpMulti && mv.Arg >= 0 && mv.Arg < len(p.c.Swaps) && p.begun[mv.Thread] < p.c.Uses:
		d := mv.Thread*p.c.Uses + p.begun[mv.Thread]
		p.begun[mv.Thread]++
		p.begin(mv, func(h *hand) api.Answer { return h.multi(d, mv.Arg) })
	case mv.Op == api.OpMultiRead && mv.Arg >= 0 && mv.Arg < len(p.c.Cells):
		p.begin(mv, func(h *hand) api.Answer { return h.read(mv.Arg) })
	}
}

func (p *plain) begin(mv api.Move, do func(h *hand) api.Answer) {
	number := len(p.run.Calls)
	p.run.Calls = append(p.run.Calls, api.Call{
		Thread: mv.Thread, Op: mv.Op, Arg: mv.Arg, Data: mv.Data, Begin: p.moves - 1, End: -1, Point: -1,
	})
	next, stop := iter.Pull(func(yield func(struct{}) bool) {
		defer func() {
			if r := recover(); r != nil && r != left {
				panic(r)
			}
		}()
		h := &hand{plain: p, thread: mv.Thread, call: number, yield: yield}
		p.run.Calls[number].Answer = do(h)
	})
	p.busy[mv.Thread] = &going{call: number, first: true, next: next, stop: stop}
}

func (p *plain) step(thread int, g *going) {
	goes := true
	if g.first {
		_, goes = g.next()
	}
	g.first = false
	if goes {
		_, goes = g.next()
	}
	if !goes {
		p.run.Calls[g.call].End = p.moves - 1
		p.busy[thread] = nil
	}
}

// leave ends the calls that are on their way.
func (p *plain) leave() {
	for _, g := range p.busy {
		if g != nil {
			g.stop()
		}
	}
}

// left is what a call gives up with that is not to go on.
const left = "left"

// hand is what a call works by.
type hand struct {
	*plain
	thread int
	call   int
	yield  func(struct{}) bool
	depth  int
}

func (h *hand) multi(d, which int) api.Answer {
	h.store(numberAt(h.c, d), which)
	status := h.help(d, which)
	h.run.Calls[h.call].Point = h.decided[d]
	if status == 1 {
		return yes
	}
	return no
}

func (h *hand) read(cell int) api.Answer {
	for {
		v := h.load(cell)
		switch v % 4 {
		case 0:
			h.run.Calls[h.call].Point = h.moves - 1
			return value(v / 4)
		case 1:
			h.met["a read meets a mark"]++
			h.settle(v, cell)
		case 2:
			h.met["a read meets a descriptor"]++
			h.helpMet(v / 4)
		}
	}
}

func (h *hand) settle(mark, cell int) {
	thread, put := mark/4%16, mark/4/16
	of := h.load(recordAt(h.c, thread))
	if of/4096 != put {
		h.met["a mark of an older put"]++
		return
	}
	d, i := of%4096/4, of%4
	e := h.c.Swaps[h.load(numberAt(h.c, d))][i]
	status := h.load(statusAt(h.c, d))
	into := 4 * e.Old
	if status == 0 {
		into = held(d)
	}
	done := h.swap(cell, mark, into)
	if status != 0 {
		h.met["a mark of a decided descriptor"]++
	}
	if !done {
		h.met["a mark that is settled meanwhile"]++
	}
}

// put tells 0 when it has put, else 1 above what it has met.
func (h *hand) put(d, i int, e api.MultiEntry) int {
	h.puts[h.thread]++
	h.store(recordAt(h.c, h.thread), recorded(h.puts[h.thread], d, i))
	for {
		v := h.load(e.Cell)
		if v%4 == 1 {
			h.met["a put meets a mark"]++
			h.settle(v, e.Cell)
			continue
		}
		if v != 4*e.Old {
			return v + 1
		}
		own := marked(h.thread, h.puts[h.thread])
		if h.swap(e.Cell, v, own) {
			h.settle(own, e.Cell)
			return 0
		}
		h.met["a put whose swap fails"]++
	}
}

func (h *hand) helpMet(d int) int {
	return h.help(d, h.load(numberAt(h.c, d)))
}

func (h *hand) help(d, which int) int {
	h.depth++
	defer func() { h.depth-- }()
	if h.depth > 1 {
		h.met["depth "+string(rune('0'+h.depth))]++
	}
	swap := h.c.Swaps[which]
	status := h.load(statusAt(h.c, d))
	if status == 0 {
		outcome, seen := h.putAll(d, swap)
		if h.swap(statusAt(h.c, d), 0, outcome) {
			h.decided[d] = h.moves - 1
			if outcome == 2 {
				h.decided[d] = seen
			}
			if d/h.c.Uses != h.thread {
				h.met["somebody else decides"]++
			}
		} else {
			h.met["decided already"]++
		}
		status = h.load(statusAt(h.c, d))
	} else {
		h.met["help of a decided one"]++
	}
	for _, e := range swap {
		into := 4 * e.Old
		if status == 1 {
			into = 4 * e.New
		}
		h.swap(e.Cell, held(d), into)
	}
	return status
}

func (h *hand) putAll(d int, swap []api.MultiEntry) (outcome, seen int) {
	for i := 0; i < len(swap); {
		v := h.put(d, i, swap[i]) - 1
		switch {
		case v < 0 || v == held(d):
			i++
		case v%4 == 2:
			h.met["a put meets another descriptor"]++
			h.helpMet(v / 4)
		default:
			return 2, h.moves - 1
		}
	}
	return 1, -1
}

// access waits for the step in which an access is made, and records it.
func (h *hand) access(kind api.AccessKind, addr int, old, w uint64) uint64 {
	if !h.yield(struct{}{}) {
		panic(left)
	}
	a := api.Access{Move: h.moves - 1, Thread: h.thread, Kind: kind, Addr: addr, Old: old, New: w}
	saw := h.run.Words[addr]
	if kind != api.AccessStore {
		a.Saw = saw
	}
	if kind == api.AccessStore || kind == api.AccessSwap && saw == old {
		h.run.Words[addr] = w
	}
	h.run.Trace = append(h.run.Trace, a)
	return saw
}

func (h *hand) load(addr int) int { return int(h.access(api.AccessLoad, addr, 0, 0)) }

func (h *hand) store(addr, w int) { h.access(api.AccessStore, addr, 0, uint64(w)) }

func (h *hand) swap(addr, old, w int) bool {
	return h.access(api.AccessSwap, addr, uint64(old), uint64(w)) == uint64(old)
}

// rare is what scripts are to meet.
func rare() []string {
	return []string{
		"a read meets a mark", "a read meets a descriptor", "a mark of an older put", "a mark of a decided descriptor",
		"a mark that is settled meanwhile", "a put meets a mark", "a put whose swap fails", "depth 2", "depth 3",
		"somebody else decides", "decided already", "help of a decided one", "a put meets another descriptor",
	}
}

// P25.1 to P25.6: the runs are those that the simplest machine tells, behind every move.
func TestRunsAgainstThePlainMachine(t *testing.T) {
	met := map[string]int{}
	eachChance(200, func(c api.Multi, moves []api.Move) {
		p, w := plainOf(c), rowOf(t, c)
		p.met = met
		defer p.leave()
		for _, mv := range moves {
			p.move(mv)
			w.m.Move(mv)
			wantRun(t, w.m.Run(), p.run)
			for thread, g := range p.busy {
				if w.m.Busy(thread) != (g != nil) {
					t.Fatalf("behind move %d: Busy(%d) is %v", w.now(), thread, g == nil)
				}
			}
		}
		wantRun(t, playOf(t, c, moves...), p.run)
	})
	wantMet(t, met, 20, rare()...)
}

// Scripts that are long, held against the simplest machine at their ends alone.
func TestLongRunsAgainstThePlainMachine(t *testing.T) {
	d := dice(5)
	for i := range 12 {
		c := chanceMulti(&d)
		if i < 6 {
			c.Threads, c.Uses = api.MaxThreads, api.MaxMultiUses
		}
		moves := chanceMoves(&d, c, 20000)
		p := plainOf(c)
		for _, mv := range moves {
			p.move(mv)
		}
		p.leave()
		wantRun(t, playOf(t, c, moves...), p.run)
	}
}
