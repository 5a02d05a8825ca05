package epoch_test

import (
	"iter"
	"slices"
	"testing"

	"reclaim/api"
)

// plain is the machine told in the simplest way: each call is straight code that waits ahead of its accesses.
type plain struct {
	c      api.Config
	run    api.Run
	moves  int
	states []api.State
	caches [][]int
	pinned []bool
	bags   [][][2]int // slots with their epochs
	busy   []*going
}

// going is a call on its way.
type going struct {
	call  int
	first bool
	next  func() (struct{}, bool)
	stop  func()
}

func plainOf(c api.Config) *plain {
	words := make([]uint64, epochAt(c)+1+c.Threads)
	words[freeAt] = head(0, 0)
	for slot := range c.Slots - 1 {
		words[spareAt(c, slot)] = link(slot + 1)
	}
	return &plain{
		c: c, run: api.Run{Words: words},
		states: make([]api.State, c.Slots),
		caches: make([][]int, c.Threads),
		pinned: make([]bool, c.Threads),
		bags:   make([][][2]int, c.Threads),
		busy:   make([]*going, c.Threads),
	}
}

func (p *plain) move(mv api.Move) {
	if p.moves == api.MaxMoves {
		return
	}
	p.moves++
	if mv.Thread < 0 || mv.Thread >= p.c.Threads {
		return
	}
	g := p.busy[mv.Thread]
	switch {
	case mv.Op == api.OpStep && g != nil:
		p.step(mv.Thread, g)
	case mv.Op != api.OpStep && g == nil && p.allows(mv):
		p.begin(mv)
	}
}

func (p *plain) allows(mv api.Move) bool {
	switch mv.Op {
	case api.OpPin:
		return !p.pinned[mv.Thread]
	case api.OpUnpin, api.OpStow, api.OpDraw:
		return p.pinned[mv.Thread]
	}
	return mv.Op == api.OpAdvance || mv.Op == api.OpCollect
}

func (p *plain) begin(mv api.Move) {
	number := len(p.run.Calls)
	p.run.Calls = append(p.run.Calls, api.Call{
		Thread: mv.Thread, Op: mv.Op, Arg: mv.Arg, Data: mv.Data, Begin: p.moves - 1, End: -1, Point: -1,
	})
	next, stop := iter.Pull(func(yield func(struct{}) bool) {
		defer func() {
			if r := recover(); r != nil && r != left {
				panic(r)
			}
		}()
		h := &hand{plain: p, thread: mv.Thread, call: number, yield: yield}
		p.run.Calls[number].Answer = h.make(mv)
	})
	p.busy[mv.Thread] = &going{call: number, first: true, next: next, stop: stop}
}

func (p *plain) step(thread int, g *going) {
	goes := true
	if g.first {
		_, goes = g.next()
	}
	g.first = false
	if goes {
		_, goes = g.next()
	}
	if !goes {
		p.run.Calls[g.call].End = p.moves - 1
		p.busy[thread] = nil
	}
}

// leave ends the calls that are on their way.
func (p *plain) leave() {
	for _, g := range p.busy {
		if g != nil {
			g.stop()
		}
	}
}

// left is what a call gives up with that is not to go on.
const left = "left"

// hand is what a call works by.
type hand struct {
	*plain
	thread int
	call   int
	yield  func(struct{}) bool
}

func (h *hand) make(mv api.Move) api.Answer {
	switch mv.Op {
	case api.OpPin:
		h.pin()
	case api.OpUnpin:
		h.store(localAt(h.c, h.thread), 0)
		h.pinned[h.thread] = false
	case api.OpStow:
		return h.stow(mv.Arg)
	case api.OpDraw:
		return h.draw()
	case api.OpAdvance:
		if h.advance() {
			return yes
		}
		return no
	case api.OpCollect:
		h.collect()
	}
	return done
}

func (h *hand) pin() {
	e := h.load(epochAt(h.c))
	for {
		h.store(localAt(h.c, h.thread), e+1)
		v := h.load(epochAt(h.c))
		if v == e {
			h.pinned[h.thread] = true
			return
		}
		e = v
	}
}

func (h *hand) stow(v int) api.Answer {
	slot := h.take()
	if slot < 0 {
		h.point()
		return full
	}
	h.store(valueAt(h.c, slot), uint64(v))
	for {
		w := h.load(topAt)
		h.store(linkAt(h.c, slot), w)
		if h.swap(topAt, w, link(slot)) {
			h.point()
			h.shift(slot, api.StateLinked)
			return done
		}
	}
}

func (h *hand) draw() api.Answer {
	for {
		w := h.load(topAt)
		if w == 0 {
			h.point()
			return empty
		}
		slot := int(w) - 1
		n := h.load(linkAt(h.c, slot))
		if !h.swap(topAt, w, n) {
			continue
		}
		h.point()
		h.shift(slot, api.StateDetached)
		v := h.load(valueAt(h.c, slot))
		r := h.load(epochAt(h.c))
		h.shift(slot, api.StateRetired)
		h.bags[h.thread] = append(h.bags[h.thread], [2]int{slot, int(r)})
		if len(h.bags[h.thread]) >= h.c.Retire {
			h.advance()
			h.collect()
		}
		return value(int(v))
	}
}

func (h *hand) advance() bool {
	e := h.load(epochAt(h.c))
	for thread := range h.c.Threads {
		if local := h.load(localAt(h.c, thread)); local != 0 && local != e+1 {
			return false
		}
	}
	return h.swap(epochAt(h.c), e, e+1)
}

func (h *hand) collect() {
	g := int(h.load(epochAt(h.c)))
	for i := 0; i < len(h.bags[h.thread]); {
		if x := h.bags[h.thread][i]; x[1] <= g-2 {
			h.bags[h.thread] = slices.Delete(slices.Clone(h.bags[h.thread]), i, i+1)
			h.give(x[0])
			continue
		}
		i++
	}
}

func (h *hand) take() int {
	cache := h.caches[h.thread]
	if n := len(cache); n > 0 {
		h.caches[h.thread] = cache[:n-1]
		h.shift(cache[n-1], api.StateOwned)
		return cache[n-1]
	}
	for {
		w := h.load(freeAt)
		slot := int(w&(1<<32-1)) - 1
		if slot < 0 {
			return -1
		}
		n := h.load(spareAt(h.c, slot))
		if h.swap(freeAt, w, w>>32<<32+1<<32+n) {
			h.shift(slot, api.StateOwned)
			return slot
		}
	}
}

func (h *hand) give(slot int) {
	if len(h.caches[h.thread]) < h.c.Cache {
		h.caches[h.thread] = append(h.caches[h.thread], slot)
		h.shift(slot, api.StateCached)
		return
	}
	for {
		w := h.load(freeAt)
		h.store(spareAt(h.c, slot), w&(1<<32-1))
		if h.swap(freeAt, w, w>>32<<32+1<<32+link(slot)) {
			h.shift(slot, api.StateFree)
			return
		}
	}
}

func (h *hand) point() { h.run.Calls[h.call].Point = h.moves - 1 }

func (h *hand) shift(slot int, to api.State) {
	h.run.Shifts = append(h.run.Shifts, api.Shift{Move: h.moves - 1, Thread: h.thread, Slot: slot, From: h.states[slot], To: to})
	h.states[slot] = to
}

// access waits for the step in which an access is made, and records it.
func (h *hand) access(kind api.AccessKind, addr int, old, w uint64) uint64 {
	if !h.yield(struct{}{}) {
		panic(left)
	}
	a := api.Access{Move: h.moves - 1, Thread: h.thread, Kind: kind, Addr: addr, Old: old, New: w}
	saw := h.run.Words[addr]
	if kind != api.AccessStore {
		a.Saw = saw
	}
	if kind == api.AccessStore || kind == api.AccessSwap && saw == old {
		h.run.Words[addr] = w
	}
	h.run.Trace = append(h.run.Trace, a)
	return saw
}

func (h *hand) load(addr int) uint64 { return h.access(api.AccessLoad, addr, 0, 0) }

func (h *hand) store(addr int, w uint64) { h.access(api.AccessStore, addr, 0, w) }

func (h *hand) swap(addr int, old, w uint64) bool {
	return h.access(api.AccessSwap, addr, old, w) == old
}

// P20.1, P20.2: the runs are those that the simplest machine tells, behind every move.
func TestRunsAgainstThePlainMachine(t *testing.T) {
	eachChance(120, func(c api.Config, moves []api.Move) {
		p, y := plainOf(c), yardOf(t, c)
		defer p.leave()
		for _, mv := range moves {
			p.move(mv)
			y.m.Move(mv)
			wantRun(t, y.m.Run(), p.run)
			for thread, g := range p.busy {
				if y.m.Busy(thread) != (g != nil) {
					t.Fatalf("behind move %d: Busy(%d) is %v", y.now(), thread, g == nil)
				}
			}
		}
		wantRun(t, playOf(t, c, moves...), p.run)
	})
}

// Scripts that are long, held against the simplest machine at their ends alone.
func TestLongRunsAgainstThePlainMachine(t *testing.T) {
	d := dice(5)
	for i := range 12 {
		c := chanceConfig(&d)
		if i < 3 {
			c.Threads, c.Slots, c.Retire = api.MaxThreads, 1+d.below(api.MaxSlots), 1+d.below(40)
		}
		moves := chanceMoves(&d, c, 20000)
		p := plainOf(c)
		for _, mv := range moves {
			p.move(mv)
		}
		p.leave()
		wantRun(t, playOf(t, c, moves...), p.run)
	}
}
