package ring_test

import (
	"iter"
	"testing"

	"reclaim/api"
)

// plain is the machine told in the simplest way: each call is straight code that waits ahead of its accesses.
type plain struct {
	c     api.Ring
	run   api.Run
	moves int
	busy  []*going
}

// going is a call on its way.
type going struct {
	call  int
	first bool
	next  func() (struct{}, bool)
	stop  func()
}

func plainOf(c api.Ring) *plain {
	p := &plain{c: c, run: api.Run{Words: make([]uint64, 2+2*c.Cells)}, busy: make([]*going, c.Threads)}
	for i := range c.Cells {
		p.run.Words[2+2*i] = uint64(i)
	}
	return p
}

func (p *plain) move(mv api.Move) {
	if p.moves == api.MaxMoves {
		return
	}
	p.moves++
	if mv.Thread < 0 || mv.Thread >= p.c.Threads {
		return
	}
	g := p.busy[mv.Thread]
	switch {
	case mv.Op == api.OpStep && g != nil:
		p.step(mv.Thread, g)
	case g != nil:
	case mv.Op == api.OpPut || mv.Op == api.OpPick:
		p.begin(mv)
	}
}

func (p *plain) begin(mv api.Move) {
	number := len(p.run.Calls)
	p.run.Calls = append(p.run.Calls, api.Call{
		Thread: mv.Thread, Op: mv.Op, Arg: mv.Arg, Data: mv.Data, Begin: p.moves - 1, End: -1, Point: -1,
	})
	next, stop := iter.Pull(func(yield func(struct{}) bool) {
		defer func() {
			if r := recover(); r != nil && r != left {
				panic(r)
			}
		}()
		h := &hand{plain: p, thread: mv.Thread, call: number, yield: yield}
		if mv.Op == api.OpPut {
			p.run.Calls[number].Answer = h.put(mv.Arg)
		} else {
			p.run.Calls[number].Answer = h.pick()
		}
	})
	p.busy[mv.Thread] = &going{call: number, first: true, next: next, stop: stop}
}

func (p *plain) step(thread int, g *going) {
	goes := true
	if g.first {
		_, goes = g.next()
	}
	g.first = false
	if goes {
		_, goes = g.next()
	}
	if !goes {
		p.run.Calls[g.call].End = p.moves - 1
		p.busy[thread] = nil
	}
}

// leave ends the calls that are on their way.
func (p *plain) leave() {
	for _, g := range p.busy {
		if g != nil {
			g.stop()
		}
	}
}

// left is what a call gives up with that is not to go on.
const left = "left"

// hand is what a call works by.
type hand struct {
	*plain
	thread int
	call   int
	yield  func(struct{}) bool
}

func (h *hand) put(v int) api.Answer {
	for {
		n := h.load(0)
		s := h.load(2 + 2*(n%h.c.Cells))
		if s < n {
			h.point()
			return full
		}
		if s == n && h.swap(0, n, n+1) {
			h.point()
			h.store(3+2*(n%h.c.Cells), v)
			h.store(2+2*(n%h.c.Cells), n+1)
			return done
		}
	}
}

func (h *hand) pick() api.Answer {
	for {
		n := h.load(1)
		s := h.load(2 + 2*(n%h.c.Cells))
		if s < n+1 {
			h.point()
			return empty
		}
		if s == n+1 && h.swap(1, n, n+1) {
			h.point()
			v := h.load(3 + 2*(n%h.c.Cells))
			h.store(2+2*(n%h.c.Cells), n+h.c.Cells)
			return value(v)
		}
	}
}

// point makes the last move the call's point.
func (h *hand) point() { h.run.Calls[h.call].Point = h.moves - 1 }

// access waits for the step in which an access is made, and records it.
func (h *hand) access(kind api.AccessKind, addr int, old, w uint64) uint64 {
	if !h.yield(struct{}{}) {
		panic(left)
	}
	a := api.Access{Move: h.moves - 1, Thread: h.thread, Kind: kind, Addr: addr, Old: old, New: w}
	saw := h.run.Words[addr]
	if kind != api.AccessStore {
		a.Saw = saw
	}
	if kind == api.AccessStore || kind == api.AccessSwap && saw == old {
		h.run.Words[addr] = w
	}
	h.run.Trace = append(h.run.Trace, a)
	return saw
}

func (h *hand) load(addr int) int { return int(h.access(api.AccessLoad, addr, 0, 0)) }

func (h *hand) store(addr, w int) { h.access(api.AccessStore, addr, 0, uint64(w)) }

func (h *hand) swap(addr, old, w int) bool {
	return h.access(api.AccessSwap, addr, uint64(old), uint64(w)) == uint64(old)
}

// P22.1, P22.2 and the calls: the runs are those that the simplest machine tells, behind every move.
func TestRunsAgainstThePlainMachine(t *testing.T) {
	eachChance(150, func(c api.Ring, moves []api.Move) {
		p, w := plainOf(c), wheelOf(t, c)
		defer p.leave()
		for _, mv := range moves {
			p.move(mv)
			w.m.Move(mv)
			wantRun(t, w.m.Run(), p.run)
			for thread, g := range p.busy {
				if w.m.Busy(thread) != (g != nil) {
					t.Fatalf("behind move %d: Busy(%d) is %v", w.now(), thread, g == nil)
				}
			}
		}
		wantRun(t, playOf(t, c, moves...), p.run)
	})
}

// Scripts that are long, held against the simplest machine at their ends alone.
func TestLongRunsAgainstThePlainMachine(t *testing.T) {
	d := dice(5)
	for i := range 12 {
		c := chanceRing(&d)
		if i < 3 {
			c = ringOf(api.MaxThreads, 2+d.below(api.MaxRing-1))
		}
		moves := chanceMoves(&d, c, 20000)
		p := plainOf(c)
		for _, mv := range moves {
			p.move(mv)
		}
		p.leave()
		wantRun(t, playOf(t, c, moves...), p.run)
	}
}
