package table_test

import (
	"iter"
	"slices"
	"testing"

	"reclaim/api"
	"reclaim/word"
)

// plain is the table with its calls and those of hazard, told in the simplest way: each call is
// straight code that waits ahead of its accesses.
type plain struct {
	c      api.Config
	run    api.Run
	moves  int
	states []api.State
	caches [][]int
	held   []int
	lists  [][]int
	busy   []*going
}

// going is a call on its way.
type going struct {
	call  int
	first bool
	next  func() (struct{}, bool)
	stop  func()
}

func plainOf(c api.Config) *plain {
	words, _ := word.First(c, 0)
	return &plain{
		c: c, run: api.Run{Words: words},
		states: make([]api.State, c.Slots),
		caches: make([][]int, c.Threads),
		held:   slices.Repeat([]int{-1}, c.Threads),
		lists:  make([][]int, c.Records),
		busy:   make([]*going, c.Threads),
	}
}

func (p *plain) move(mv api.Move) {
	p.moves++
	if mv.Thread < 0 || mv.Thread >= p.c.Threads {
		return
	}
	g := p.busy[mv.Thread]
	switch {
	case mv.Op == api.OpStep && g != nil:
		p.step(mv.Thread, g)
	case mv.Op != api.OpStep && g == nil && p.allows(mv):
		p.begin(mv)
	}
}

func (p *plain) allows(mv api.Move) bool {
	holds := p.held[mv.Thread] >= 0
	switch mv.Op {
	case api.OpRegister:
		return !holds
	case api.OpUnregister, api.OpPost, api.OpScan, api.OpAdd, api.OpRemove, api.OpGet:
		return holds
	case api.OpRead, api.OpClear:
		return holds && mv.Arg >= 0 && mv.Arg < p.c.Hazards
	}
	return false
}

func (p *plain) begin(mv api.Move) {
	number := len(p.run.Calls)
	p.run.Calls = append(p.run.Calls, api.Call{
		Thread: mv.Thread, Op: mv.Op, Arg: mv.Arg, Data: mv.Data, Begin: p.moves - 1, End: -1, Point: -1,
	})
	next, stop := iter.Pull(func(yield func(struct{}) bool) {
		defer func() {
			if r := recover(); r != nil && r != left {
				panic(r)
			}
		}()
		h := &hand{plain: p, thread: mv.Thread, call: number, yield: yield}
		p.run.Calls[number].Answer = h.make(mv)
	})
	p.busy[mv.Thread] = &going{call: number, first: true, next: next, stop: stop}
}

func (p *plain) step(thread int, g *going) {
	goes := true
	if g.first {
		_, goes = g.next()
	}
	g.first = false
	if goes {
		_, goes = g.next()
	}
	if !goes {
		p.run.Calls[g.call].End = p.moves - 1
		p.busy[thread] = nil
	}
}

// leave ends the calls that are on their way.
func (p *plain) leave() {
	for _, g := range p.busy {
		if g != nil {
			g.stop()
		}
	}
}

// left is what a call gives up with that is not to go on.
const left = "left"

// hand is what a call works by.
type hand struct {
	*plain
	thread int
	call   int
	yield  func(struct{}) bool
}

func (h *hand) make(mv api.Move) api.Answer {
	switch mv.Op {
	case api.OpAdd:
		return h.add(mv.Arg, mv.Data)
	case api.OpRemove:
		return h.remove(mv.Arg)
	case api.OpGet:
		return h.get(mv.Arg)
	case api.OpRegister:
		return h.register()
	case api.OpUnregister:
		h.unregister()
	case api.OpPost:
		return h.post(mv.Arg)
	case api.OpRead:
		return h.read(mv.Arg)
	case api.OpClear:
		h.store(h.own(mv.Arg), 0)
	case api.OpScan:
		h.scan()
	}
	return done
}

// place is where a key is, or would be, in its bucket.
type place struct {
	there bool
	p     int
	w, x  uint64
	cur   int
	point int
}

// find goes along the bucket till nothing changes on its way.
func (h *hand) find(key int) place {
	for {
		if at, ok := h.walk(key); ok {
			return at
		}
	}
}

func (h *hand) walk(key int) (place, bool) {
	p := rootOf(h.c, key)
	w := h.load(p)
	if w == 0 {
		return place{false, p, w, 0, -1, h.moves - 1}, true
	}
	h.store(h.own(1), w)
	if h.load(p) != w {
		return place{}, false
	}
	for {
		cur := slotIn(w)
		x := h.load(h.link(cur))
		next := x &^ markBit
		h.store(h.own(0), next)
		if h.load(h.link(cur)) != x {
			return place{}, false
		}
		seen := h.moves - 1
		k := int(h.load(h.value(cur)))
		if h.load(p) != w {
			return place{}, false
		}
		switch {
		case x != next:
			if !h.swap(p, w, next) {
				return place{}, false
			}
			seen = h.moves - 1
			h.shift(cur, api.StateDetached)
			h.retire(cur)
		case k >= key:
			if k > key {
				seen = h.moves - 1
			}
			return place{k == key, p, w, x, cur, seen}, true
		default:
			p = h.link(cur)
			if next != 0 {
				h.store(h.own(2), link(cur))
			}
		}
		w = next
		if w == 0 {
			return place{false, p, w, x, -1, seen}, true
		}
		h.store(h.own(1), w)
	}
}

func (h *hand) leave() {
	for k := range 3 {
		h.store(h.own(k), 0)
	}
}

func (h *hand) add(key, data int) api.Answer {
	slot := -1
	for {
		at := h.find(key)
		if at.there {
			h.point(at.point)
			if slot >= 0 {
				h.give(slot)
			}
			h.leave()
			return no
		}
		if slot < 0 {
			slot = h.take()
			if slot < 0 {
				seen := h.moves - 1
				h.leave()
				h.point(seen)
				return full
			}
			h.store(h.value(slot), uint64(key))
			h.store(h.data(slot), uint64(data))
		}
		h.store(h.link(slot), at.w)
		if h.swap(at.p, at.w, link(slot)) {
			h.point(h.moves - 1)
			h.shift(slot, api.StateLinked)
			h.leave()
			return yes
		}
	}
}

func (h *hand) remove(key int) api.Answer {
	for {
		at := h.find(key)
		if !at.there {
			h.point(at.point)
			h.leave()
			return no
		}
		if !h.swap(h.link(at.cur), at.x, at.x|markBit) {
			continue
		}
		h.point(h.moves - 1)
		data := h.load(h.data(at.cur))
		if h.swap(at.p, at.w, at.x) {
			h.shift(at.cur, api.StateDetached)
			h.retire(at.cur)
		} else {
			h.find(key)
		}
		h.leave()
		return value(int(data))
	}
}

func (h *hand) get(key int) api.Answer {
	at := h.find(key)
	h.point(at.point)
	if !at.there {
		h.leave()
		return no
	}
	data := h.load(h.data(at.cur))
	h.leave()
	return value(int(data))
}

func (h *hand) register() api.Answer {
	for i := range h.c.Records {
		if h.load(h.active(i)) != 1 && h.swap(h.active(i), 0, 1) {
			h.held[h.thread] = i
			return value(i)
		}
	}
	return full
}

func (h *hand) unregister() {
	for k := range h.c.Hazards {
		h.store(h.own(k), 0)
	}
	h.scan()
	h.flush()
	h.store(h.active(h.held[h.thread]), 0)
	h.held[h.thread] = -1
}

func (h *hand) post(v int) api.Answer {
	slot := h.take()
	if slot < 0 {
		h.point(h.moves - 1)
		return full
	}
	h.store(h.value(slot), uint64(v))
	for {
		w := h.load(1)
		if !h.swap(1, w, link(slot)) {
			continue
		}
		h.point(h.moves - 1)
		h.shift(slot, api.StateLinked)
		if w != 0 {
			h.shift(int(w)-1, api.StateDetached)
			h.retire(int(w) - 1)
		}
		return done
	}
}

func (h *hand) read(k int) api.Answer {
	w := h.load(1)
	for w != 0 {
		h.store(h.own(k), w)
		v := h.load(1)
		if v == w {
			seen := h.moves - 1
			v = h.load(h.value(int(w) - 1))
			h.point(seen)
			return value(int(v))
		}
		w = v
	}
	h.point(h.moves - 1)
	return empty
}

func (h *hand) retire(slot int) {
	h.shift(slot, api.StateRetired)
	own := h.held[h.thread]
	h.lists[own] = append(h.lists[own], slot)
	if len(h.lists[own]) >= h.c.Retire {
		h.scan()
	}
}

func (h *hand) scan() {
	own := h.held[h.thread]
	for j := range h.c.Records {
		if j != own && h.load(h.active(j)) != 1 && h.swap(h.active(j), 0, 1) {
			h.lists[own] = slices.Concat(h.lists[own], h.lists[j])
			h.lists[j] = nil
			h.store(h.active(j), 0)
		}
	}
	if len(h.lists[own]) == 0 {
		return
	}
	var names []int
	for i := range h.c.Records * h.c.Hazards {
		names = append(names, int(h.load(addrOf(h.c, api.RegionHazard, 0, 0)+i))-1)
	}
	var stay, pending []int
	for _, slot := range h.lists[own] {
		if slices.Contains(names, slot) {
			stay = append(stay, slot)
		} else {
			pending = append(pending, slot)
		}
	}
	h.lists[own] = stay
	for _, slot := range pending {
		h.give(slot)
	}
}

func (h *hand) take() int {
	cache := h.caches[h.thread]
	if n := len(cache); n > 0 {
		h.caches[h.thread] = cache[:n-1]
		h.shift(cache[n-1], api.StateOwned)
		return cache[n-1]
	}
	for {
		w := h.load(0)
		slot := int(w&(1<<32-1)) - 1
		if slot < 0 {
			return -1
		}
		n := h.load(addrOf(h.c, api.RegionSpare, slot, 0))
		if h.swap(0, w, w>>32<<32+1<<32+n) {
			h.shift(slot, api.StateOwned)
			return slot
		}
	}
}

func (h *hand) give(slot int) {
	if len(h.caches[h.thread]) < h.c.Cache {
		h.caches[h.thread] = append(h.caches[h.thread], slot)
		h.shift(slot, api.StateCached)
		return
	}
	h.put(slot)
}

func (h *hand) flush() {
	for n := len(h.caches[h.thread]); n > 0; n-- {
		h.put(h.caches[h.thread][n-1])
		h.caches[h.thread] = h.caches[h.thread][:n-1]
	}
}

func (h *hand) put(slot int) {
	for {
		w := h.load(0)
		h.store(addrOf(h.c, api.RegionSpare, slot, 0), w&(1<<32-1))
		if h.swap(0, w, w>>32<<32+1<<32+uint64(slot)+1) {
			h.shift(slot, api.StateFree)
			return
		}
	}
}

func (h *hand) active(record int) int { return addrOf(h.c, api.RegionActive, record, 0) }

func (h *hand) own(k int) int { return addrOf(h.c, api.RegionHazard, h.held[h.thread], k) }

func (h *hand) value(slot int) int { return addrOf(h.c, api.RegionValue, slot, 0) }

func (h *hand) data(slot int) int { return addrOf(h.c, api.RegionData, slot, 0) }

func (h *hand) link(slot int) int { return addrOf(h.c, api.RegionLink, slot, 0) }

func (h *hand) point(move int) { h.run.Calls[h.call].Point = move }

func (h *hand) shift(slot int, to api.State) {
	h.run.Shifts = append(h.run.Shifts, api.Shift{Move: h.moves - 1, Thread: h.thread, Slot: slot, From: h.states[slot], To: to})
	h.states[slot] = to
}

// access waits for the step in which an access is made, and records it.
func (h *hand) access(kind api.AccessKind, addr int, old, w uint64) uint64 {
	if !h.yield(struct{}{}) {
		panic(left)
	}
	a := api.Access{Move: h.moves - 1, Thread: h.thread, Kind: kind, Addr: addr, Old: old, New: w}
	saw := h.run.Words[addr]
	if kind != api.AccessStore {
		a.Saw = saw
	}
	if kind == api.AccessStore || kind == api.AccessSwap && saw == old {
		h.run.Words[addr] = w
	}
	h.run.Trace = append(h.run.Trace, a)
	return saw
}

func (h *hand) load(addr int) uint64 { return h.access(api.AccessLoad, addr, 0, 0) }

func (h *hand) store(addr int, w uint64) { h.access(api.AccessStore, addr, 0, w) }

func (h *hand) swap(addr int, old, w uint64) bool {
	return h.access(api.AccessSwap, addr, old, w) == old
}

// The chapter's calls: the runs are those that the simplest table tells, behind every move.
func TestRunsAgainstThePlainTable(t *testing.T) {
	eachChance(t, 300, func(c api.Config, moves []api.Move) {
		p, y := plainOf(c), yardOf(t, c)
		defer p.leave()
		for _, mv := range moves {
			p.move(mv)
			y.m.Move(mv)
			wantRun(t, y.m.Run(), p.run)
			for record := range c.Records {
				y.wantList(t, record, p.lists[record]...)
			}
			for thread := range c.Threads {
				if !slices.Equal(y.a.Cached(thread), p.caches[thread]) {
					t.Fatalf("Cached(%d) = %v, not %v", thread, y.a.Cached(thread), p.caches[thread])
				}
			}
		}
		wantRun(t, playOf(t, c, moves...), p.run)
	})
}
