package deque_test

import (
	"iter"
	"testing"

	"reclaim/api"
)

// plain is the machine told in the simplest way: each call is straight code that waits ahead of its accesses.
type plain struct {
	d     api.Deque
	run   api.Run
	moves int
	busy  []*going
	put   *down
}

// down is that the take on its way has put bottom down: the move, its b, and what top was then.
type down struct {
	move, b, top int
}

// going is a call on its way.
type going struct {
	call  int
	first bool
	next  func() (struct{}, bool)
	stop  func()
}

func plainOf(d api.Deque) *plain {
	return &plain{d: d, run: api.Run{Words: make([]uint64, 2+d.Room)}, busy: make([]*going, d.Threads)}
}

func (p *plain) move(mv api.Move) {
	if p.moves == api.MaxMoves {
		return
	}
	p.moves++
	if mv.Thread < 0 || mv.Thread >= p.d.Threads {
		return
	}
	g := p.busy[mv.Thread]
	switch {
	case mv.Op == api.OpStep && g != nil:
		p.step(mv.Thread, g)
	case g != nil:
	case mv.Op == api.OpSteal, mv.Thread == 0 && (mv.Op == api.OpDequePush || mv.Op == api.OpDequeTake):
		p.begin(mv)
	}
}

func (p *plain) begin(mv api.Move) {
	number := len(p.run.Calls)
	p.run.Calls = append(p.run.Calls, api.Call{
		Thread: mv.Thread, Op: mv.Op, Arg: mv.Arg, Data: mv.Data, Begin: p.moves - 1, End: -1, Point: -1,
	})
	next, stop := iter.Pull(func(yield func(struct{}) bool) {
		defer func() {
			if r := recover(); r != nil && r != left {
				panic(r)
			}
		}()
		h := &hand{plain: p, thread: mv.Thread, call: number, yield: yield}
		p.run.Calls[number].Answer = h.make(mv)
	})
	p.busy[mv.Thread] = &going{call: number, first: true, next: next, stop: stop}
}

func (p *plain) step(thread int, g *going) {
	goes := true
	if g.first {
		_, goes = g.next()
	}
	g.first = false
	if goes {
		_, goes = g.next()
	}
	if !goes {
		p.run.Calls[g.call].End = p.moves - 1
		p.busy[thread] = nil
	}
}

// leave ends the calls that are on their way.
func (p *plain) leave() {
	for _, g := range p.busy {
		if g != nil {
			g.stop()
		}
	}
}

// left is what a call gives up with that is not to go on.
const left = "left"

// hand is what a call works by.
type hand struct {
	*plain
	thread int
	call   int
	yield  func(struct{}) bool
}

func (h *hand) make(mv api.Move) api.Answer {
	switch mv.Op {
	case api.OpDequePush:
		return h.push(mv.Arg)
	case api.OpDequeTake:
		a := h.take()
		h.put = nil
		return a
	}
	return h.steal()
}

func (h *hand) push(v int) api.Answer {
	b := h.load(bottomAt)
	t := h.load(topAt)
	if b-t >= h.d.Room {
		h.point(h.now())
		return full
	}
	h.store(2+b%h.d.Room, v)
	h.store(bottomAt, b+1)
	h.point(h.now())
	return done
}

func (h *hand) take() api.Answer {
	b := h.load(bottomAt)
	h.store(bottomAt, b-1)
	h.point(h.now())
	h.put = &down{h.now(), b, int(h.run.Words[topAt])}
	t := h.load(topAt)
	if b-1 < t {
		h.point(h.now())
		h.store(bottomAt, t)
		return empty
	}
	v := h.load(2 + (b-1)%h.d.Room)
	if t < b-1 {
		return value(v)
	}
	answer := value(v)
	if !h.swap(topAt, t, t+1) {
		answer = empty
		h.point(h.now())
	}
	h.store(bottomAt, t+1)
	return answer
}

func (h *hand) steal() api.Answer {
	for {
		t := h.load(topAt)
		b := h.load(bottomAt)
		if b-t <= 0 {
			h.point(h.now())
			return empty
		}
		v := h.load(2 + t%h.d.Room)
		if !h.swap(topAt, t, t+1) {
			continue
		}
		h.point(h.now())
		if p := h.put; p != nil && p.top == p.b-1 && t == p.b-1 {
			h.point(p.move)
		}
		return value(v)
	}
}

func (h *hand) now() int { return h.moves - 1 }

func (h *hand) point(move int) { h.run.Calls[h.call].Point = move }

// access waits for the step in which an access is made, and records it.
func (h *hand) access(kind api.AccessKind, addr int, old, w uint64) uint64 {
	if !h.yield(struct{}{}) {
		panic(left)
	}
	a := api.Access{Move: h.now(), Thread: h.thread, Kind: kind, Addr: addr, Old: old, New: w}
	saw := h.run.Words[addr]
	if kind != api.AccessStore {
		a.Saw = saw
	}
	if kind == api.AccessStore || kind == api.AccessSwap && saw == old {
		h.run.Words[addr] = w
	}
	h.run.Trace = append(h.run.Trace, a)
	return saw
}

func (h *hand) load(addr int) int { return int(h.access(api.AccessLoad, addr, 0, 0)) }

func (h *hand) store(addr, w int) { h.access(api.AccessStore, addr, 0, uint64(w)) }

func (h *hand) swap(addr, old, w int) bool {
	return h.access(api.AccessSwap, addr, uint64(old), uint64(w)) == uint64(old)
}

// P21.1 to P21.4: the runs are those that the simplest machine tells, behind every move.
func TestRunsAgainstThePlainMachine(t *testing.T) {
	eachChance(150, func(d api.Deque, moves []api.Move) {
		p, y := plainOf(d), yardOf(t, d)
		defer p.leave()
		for _, mv := range moves {
			p.move(mv)
			y.m.Move(mv)
			wantRun(t, y.m.Run(), p.run)
			for thread, g := range p.busy {
				if y.m.Busy(thread) != (g != nil) {
					t.Fatalf("behind move %d: Busy(%d) is %v", y.now(), thread, g == nil)
				}
			}
		}
		wantRun(t, playOf(t, d, moves...), p.run)
	})
}

// Scripts that are long, held against the simplest machine at their ends alone.
func TestLongRunsAgainstThePlainMachine(t *testing.T) {
	c := dice(5)
	for i := range 12 {
		d := chanceDeque(&c)
		if i < 3 {
			d = dequeOf(api.MaxThreads, 1+c.below(api.MaxRoom))
		}
		moves := chanceMoves(&c, d, 20000)
		p := plainOf(d)
		for _, mv := range moves {
			p.move(mv)
		}
		p.leave()
		wantRun(t, playOf(t, d, moves...), p.run)
	}
}
