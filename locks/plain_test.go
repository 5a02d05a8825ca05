package locks_test

import (
	"iter"
	"testing"

	"reclaim/api"
)

// plain is the machine told in the simplest way: each call is straight code that waits ahead of its accesses.
type plain struct {
	c     api.Locks
	run   api.Run
	moves int
	busy  []*going
	has   []string // of each thread: "", "alone" or "shared"
	mind  []mind   // of each thread
}

// going is a call on its way.
type going struct {
	call  int
	first bool
	next  func() (struct{}, bool)
	stop  func()
}

// mind is what a thread keeps in mind from call to call.
type mind struct {
	ticket int
	node   int
	ahead  int
}

func plainOf(c api.Locks) *plain {
	t := c.Threads
	size := []int{2, 3, t + 3, 2*t + 2, 2 * t, 2*t + 1, 2}[c.Kind-1]
	p := &plain{
		c: c, run: api.Run{Words: make([]uint64, size)},
		busy: make([]*going, t), has: make([]string, t), mind: make([]mind, t),
	}
	for i := range p.mind {
		p.mind[i].node = i
	}
	if c.Kind == api.LockQueue {
		p.run.Words[1] = uint64(t)
	}
	return p
}

func (p *plain) move(mv api.Move) {
	if p.moves == api.MaxMoves {
		return
	}
	p.moves++
	if mv.Thread < 0 || mv.Thread >= p.c.Threads {
		return
	}
	g := p.busy[mv.Thread]
	switch {
	case mv.Op == api.OpStep && g != nil:
		p.step(mv.Thread, g)
	case g == nil && p.may(mv.Thread, mv.Op):
		p.begin(mv)
	}
}

func (p *plain) may(thread int, op api.Op) bool {
	switch op {
	case api.OpAcquire:
		return p.has[thread] == ""
	case api.OpRelease, api.OpTouch:
		return p.has[thread] == "alone"
	case api.OpShare:
		return p.has[thread] == "" && p.c.Kind == api.LockShared
	case api.OpUnshare:
		return p.has[thread] == "shared"
	}
	return false
}

func (p *plain) begin(mv api.Move) {
	number := len(p.run.Calls)
	p.run.Calls = append(p.run.Calls, api.Call{
		Thread: mv.Thread, Op: mv.Op, Arg: mv.Arg, Data: mv.Data, Begin: p.moves - 1, End: -1, Point: -1,
	})
	next, stop := iter.Pull(func(yield func(struct{}) bool) {
		defer func() {
			if r := recover(); r != nil && r != left {
				panic(r)
			}
		}()
		h := &hand{plain: p, me: mv.Thread, call: number, yield: yield}
		p.run.Calls[number].Answer = h.make(mv.Op)
	})
	p.busy[mv.Thread] = &going{call: number, first: true, next: next, stop: stop}
}

func (p *plain) step(thread int, g *going) {
	goes := true
	if g.first {
		_, goes = g.next()
	}
	g.first = false
	if goes {
		_, goes = g.next()
	}
	if !goes {
		p.run.Calls[g.call].End = p.moves - 1
		p.busy[thread] = nil
	}
}

// leave ends the calls that are on their way.
func (p *plain) leave() {
	for _, g := range p.busy {
		if g != nil {
			g.stop()
		}
	}
}

// left is what a call gives up with that is not to go on.
const left = "left"

// hand is what a call works by.
type hand struct {
	*plain
	me    int
	call  int
	yield func(struct{}) bool
}

func (h *hand) make(op api.Op) api.Answer {
	t := h.c.Threads
	acquires := []func(){
		h.acquireFlag, h.acquireTicket, func() { h.acquireQueue(&h.mind[h.me]) }, h.acquireNode,
		func() { h.acquireFilter(t) }, func() { h.acquireBakery(t) }, h.acquireShared,
	}
	releases := []func(){
		func() { h.store(1, 0) },
		func() { h.store(2, h.mind[h.me].ticket+1) },
		func() { h.releaseQueue(&h.mind[h.me]) },
		h.releaseNode,
		func() { h.store(1+h.me, 0) },
		func() { h.store(2+2*h.me, 0) },
		func() { h.store(1, 0) },
	}
	switch op {
	case api.OpAcquire:
		acquires[h.c.Kind-1]()
		h.has[h.me] = "alone"
	case api.OpRelease:
		releases[h.c.Kind-1]()
		h.has[h.me] = ""
	case api.OpShare:
		h.share()
		h.has[h.me] = "shared"
	case api.OpUnshare:
		for s := h.load(1); !h.swap(1, s, s-1); s = h.load(1) {
		}
		h.has[h.me] = ""
	case api.OpTouch:
		count := h.load(0)
		h.store(0, count+1)
		return value(count)
	}
	return done
}

func (h *hand) acquireFlag() {
	for !h.swap(1, 0, 1) {
	}
	h.point()
}

func (h *hand) acquireShared() {
	for !h.swap(1, 0, -1) {
	}
	h.point()
}

func (h *hand) acquireTicket() {
	n := h.load(1)
	for !h.swap(1, n, n+1) {
		n = h.load(1)
	}
	h.point()
	for h.load(2) != n {
	}
	h.mind[h.me].ticket = n
}

func (h *hand) acquireQueue(m *mind) {
	h.store(2+m.node, 1)
	p := h.load(1)
	for !h.swap(1, p, m.node) {
		p = h.load(1)
	}
	h.point()
	for h.load(2+p) != 0 {
	}
	m.ahead = p
}

func (h *hand) releaseQueue(m *mind) {
	h.store(2+m.node, 0)
	m.node = m.ahead
}

func (h *hand) acquireNode() {
	h.store(2+2*h.me, 0)
	p := h.load(1)
	for !h.swap(1, p, h.me+1) {
		p = h.load(1)
	}
	h.point()
	if p == 0 {
		return
	}
	h.store(3+2*h.me, 1)
	h.store(2+2*(p-1), h.me+1)
	for h.load(3+2*h.me) != 0 {
	}
}

func (h *hand) releaseNode() {
	s := h.load(2 + 2*h.me)
	if s == 0 {
		if h.swap(1, h.me+1, 0) {
			return
		}
		for s == 0 {
			s = h.load(2 + 2*h.me)
		}
	}
	h.store(3+2*(s-1), 0)
}

func (h *hand) acquireFilter(t int) {
	for l := 1; l < t; l++ {
		h.store(1+h.me, l)
		h.store(t+l, h.me)
		for h.higher(l, t) && h.load(t+l) == h.me {
		}
	}
	h.point()
}

// higher tells whether another thread is not below a level: the first one that isn't.
func (h *hand) higher(l, t int) bool {
	for k := range t {
		if k != h.me && h.load(1+k) >= l {
			return true
		}
	}
	return false
}

func (h *hand) acquireBakery(t int) {
	h.store(1+2*h.me, 1)
	greatest := 0
	for k := range t {
		if k != h.me {
			greatest = max(greatest, h.load(2+2*k))
		}
	}
	own := greatest + 1
	h.store(2+2*h.me, own)
	h.store(1+2*h.me, 0)
	h.point()
	for k := range t {
		if k == h.me {
			continue
		}
		for h.load(1+2*k) != 0 {
		}
		for {
			n := h.load(2 + 2*k)
			if n == 0 || n > own || n == own && k > h.me {
				break
			}
		}
	}
}

func (h *hand) share() {
	for {
		s := h.load(1)
		if s >= 0 && h.swap(1, s, s+1) {
			h.point()
			return
		}
	}
}

// point makes the last move the call's point.
func (h *hand) point() { h.run.Calls[h.call].Point = h.moves - 1 }

// access waits for the step in which an access is made, and records it.
func (h *hand) access(kind api.AccessKind, addr int, old, w uint64) uint64 {
	if !h.yield(struct{}{}) {
		panic(left)
	}
	a := api.Access{Move: h.moves - 1, Thread: h.me, Kind: kind, Addr: addr, Old: old, New: w}
	saw := h.run.Words[addr]
	if kind != api.AccessStore {
		a.Saw = saw
	}
	if kind == api.AccessStore || kind == api.AccessSwap && saw == old {
		h.run.Words[addr] = w
	}
	h.run.Trace = append(h.run.Trace, a)
	return saw
}

func (h *hand) load(addr int) int { return int(h.access(api.AccessLoad, addr, 0, 0)) }

func (h *hand) store(addr, w int) { h.access(api.AccessStore, addr, 0, uint64(w)) }

func (h *hand) swap(addr, old, w int) bool {
	return h.access(api.AccessSwap, addr, uint64(old), uint64(w)) == uint64(old)
}

// P24.2 and the calls: the runs are those that the simplest machine tells, behind every move.
func TestRunsAgainstThePlainMachine(t *testing.T) {
	eachChance(250, func(c api.Locks, moves []api.Move) {
		p, g := plainOf(c), gateOf(t, c)
		defer p.leave()
		for _, mv := range moves {
			p.move(mv)
			g.m.Move(mv)
			wantRun(t, g.m.Run(), p.run)
			for thread, busy := range p.busy {
				if g.m.Busy(thread) != (busy != nil) {
					t.Fatalf("behind move %d: Busy(%d) is %v", g.now(), thread, busy == nil)
				}
			}
		}
		wantRun(t, playOf(t, c, moves...), p.run)
	})
}

// Scripts that are long, held against the simplest machine at their ends alone: of each kind, with few threads and
// with many.
func TestLongRunsAgainstThePlainMachine(t *testing.T) {
	d := dice(5)
	for _, kind := range kinds() {
		for _, threads := range []int{1, 2, 3, 5, api.MaxThreads} {
			c := locksOf(threads, kind)
			moves := chanceMoves(&d, c, 12000)
			p := plainOf(c)
			for _, mv := range moves {
				p.move(mv)
			}
			p.leave()
			wantRun(t, playOf(t, c, moves...), p.run)
		}
	}
}
