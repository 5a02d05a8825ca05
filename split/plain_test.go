package split_test

import (
	"iter"
	"slices"
	"testing"

	"reclaim/api"
)

// plain is the machine told in the simplest way: each call is straight code that waits ahead of its accesses.
type plain struct {
	s      api.Split
	c      api.Config
	run    api.Run
	moves  int
	states []api.State
	caches [][]int
	held   []int
	lists  [][]int
	busy   []*going
}

// going is a call on its way.
type going struct {
	call  int
	first bool
	next  func() (struct{}, bool)
	stop  func()
}

func plainOf(s api.Split) *plain {
	c := s.Config
	words := make([]uint64, sizeAt(s)+1)
	words[freeAt] = head(0, 0)
	for slot := range c.Slots - 1 {
		words[spareAt(s, slot)] = link(slot + 1)
	}
	words[sizeAt(s)] = 1
	return &plain{
		s: s, c: c, run: api.Run{Words: words},
		states: make([]api.State, c.Slots),
		caches: make([][]int, c.Threads),
		held:   slices.Repeat([]int{-1}, c.Threads),
		lists:  make([][]int, c.Records),
		busy:   make([]*going, c.Threads),
	}
}

func (p *plain) move(mv api.Move) {
	if p.moves == api.MaxMoves {
		return
	}
	p.moves++
	if mv.Thread < 0 || mv.Thread >= p.c.Threads {
		return
	}
	g := p.busy[mv.Thread]
	switch {
	case mv.Op == api.OpStep && g != nil:
		p.step(mv.Thread, g)
	case mv.Op != api.OpStep && g == nil && p.allows(mv):
		p.begin(mv)
	}
}

func (p *plain) allows(mv api.Move) bool {
	holds := p.held[mv.Thread] >= 0
	switch mv.Op {
	case api.OpRegister:
		return !holds
	case api.OpUnregister, api.OpPost, api.OpScan:
		return holds
	case api.OpAdd, api.OpRemove, api.OpGet:
		return holds && mv.Arg >= 0 && mv.Arg < 1<<30
	case api.OpRead, api.OpClear:
		return holds && mv.Arg >= 0 && mv.Arg < p.c.Hazards
	}
	return false
}

func (p *plain) begin(mv api.Move) {
	number := len(p.run.Calls)
	p.run.Calls = append(p.run.Calls, api.Call{
		Thread: mv.Thread, Op: mv.Op, Arg: mv.Arg, Data: mv.Data, Begin: p.moves - 1, End: -1, Point: -1,
	})
	next, stop := iter.Pull(func(yield func(struct{}) bool) {
		defer func() {
			if r := recover(); r != nil && r != left {
				panic(r)
			}
		}()
		h := &hand{plain: p, thread: mv.Thread, call: number, yield: yield}
		p.run.Calls[number].Answer = h.make(mv)
	})
	p.busy[mv.Thread] = &going{call: number, first: true, next: next, stop: stop}
}

func (p *plain) step(thread int, g *going) {
	goes := true
	if g.first {
		_, goes = g.next()
	}
	g.first = false
	if goes {
		_, goes = g.next()
	}
	if !goes {
		p.run.Calls[g.call].End = p.moves - 1
		p.busy[thread] = nil
	}
}

// leave ends the calls that are on their way.
func (p *plain) leave() {
	for _, g := range p.busy {
		if g != nil {
			g.stop()
		}
	}
}

// left is what a call gives up with that is not to go on.
const left = "left"

// hand is what a call works by.
type hand struct {
	*plain
	thread int
	call   int
	yield  func(struct{}) bool
}

func (h *hand) make(mv api.Move) api.Answer {
	switch mv.Op {
	case api.OpAdd:
		return h.add(mv.Arg, mv.Data)
	case api.OpRemove:
		return h.remove(mv.Arg)
	case api.OpGet:
		return h.get(mv.Arg)
	case api.OpRegister:
		return h.register()
	case api.OpUnregister:
		h.unregister()
	case api.OpPost:
		return h.post(mv.Arg)
	case api.OpRead:
		return h.read(mv.Arg)
	case api.OpClear:
		h.store(h.own(mv.Arg), 0)
	case api.OpScan:
		h.scan()
	}
	return done
}

// spot is where a place is, or would be, in the list.
type spot struct {
	there bool
	p     int
	w, x  uint64
	cur   int
	point int
}

// find goes along the list from a root till nothing changes on its way.
func (h *hand) find(root int, place uint64) spot {
	for {
		if at, ok := h.walk(root, place); ok {
			return at
		}
	}
}

func (h *hand) walk(p int, place uint64) (spot, bool) {
	w := h.load(p)
	if w == 0 {
		return spot{false, p, w, 0, -1, h.moves - 1}, true
	}
	h.store(h.own(1), w)
	if h.load(p) != w {
		return spot{}, false
	}
	for {
		cur := slotIn(w)
		x := h.load(linkAt(h.s, cur))
		next := x &^ markBit
		h.store(h.own(0), next)
		if h.load(linkAt(h.s, cur)) != x {
			return spot{}, false
		}
		seen := h.moves - 1
		k := h.load(valueAt(h.s, cur))
		if h.load(p) != w {
			return spot{}, false
		}
		switch {
		case x != next:
			if !h.swap(p, w, next) {
				return spot{}, false
			}
			seen = h.moves - 1
			h.shift(cur, api.StateDetached)
			h.retire(cur)
		case k >= place:
			if k > place {
				seen = h.moves - 1
			}
			return spot{k == place, p, w, x, cur, seen}, true
		default:
			p = linkAt(h.s, cur)
			if next != 0 {
				h.store(h.own(2), link(cur))
			}
		}
		w = next
		if w == 0 {
			return spot{false, p, w, x, -1, seen}, true
		}
		h.store(h.own(1), w)
	}
}

func (h *hand) leaves() {
	for k := range 3 {
		h.store(h.own(k), 0)
	}
}

// root is where a key's call goes along the list from.
func (h *hand) root(key int) int {
	size := h.load(sizeAt(h.s))
	root, _ := h.seek(key % int(size))
	return root
}

// seek tells a bucket's root. The bucket's parent is told ahead of it, if it is asked for at all.
func (h *hand) seek(bucket int) (int, bool) {
	if bucket == 0 {
		return rootAt, true
	}
	if w := h.load(bucketAt(bucket)); w != 0 {
		return linkAt(h.s, slotIn(w)), true
	}
	top := 1
	for 2*top <= bucket {
		top *= 2
	}
	root, _ := h.seek(bucket - top)
	slot, ok := h.bucketSlot(root, bucketPlace(bucket))
	if !ok {
		return root, false
	}
	h.swap(bucketAt(bucket), 0, link(slot))
	return linkAt(h.s, slot), true
}

// bucketSlot is the slot at a bucket's place, put there if there was none.
func (h *hand) bucketSlot(root int, place uint64) (int, bool) {
	slot := -1
	for {
		at := h.find(root, place)
		if at.there {
			if slot >= 0 {
				h.give(slot)
			}
			return at.cur, true
		}
		if slot < 0 {
			if slot = h.take(); slot < 0 {
				return -1, false
			}
			h.store(valueAt(h.s, slot), place)
		}
		h.store(linkAt(h.s, slot), at.w)
		if h.swap(at.p, at.w, link(slot)) {
			h.shift(slot, api.StateLinked)
			return slot, true
		}
	}
}

func (h *hand) count(by int) {
	c := int(h.load(countAt(h.s)))
	for !h.swap(countAt(h.s), uint64(c), uint64(c+by)) {
		c = int(h.load(countAt(h.s)))
	}
	if by < 0 {
		return
	}
	n := int(h.load(sizeAt(h.s)))
	if c+1 > h.s.Load*n && 2*n <= h.c.Buckets {
		h.swap(sizeAt(h.s), uint64(n), uint64(2*n))
	}
}

func (h *hand) add(key, data int) api.Answer {
	root := h.root(key)
	slot := -1
	for {
		at := h.find(root, keyAt(key))
		if at.there {
			h.point(at.point)
			if slot >= 0 {
				h.give(slot)
			}
			h.leaves()
			return no
		}
		if slot < 0 {
			slot = h.take()
			if slot < 0 {
				seen := h.moves - 1
				h.leaves()
				h.point(seen)
				return full
			}
			h.store(valueAt(h.s, slot), keyAt(key))
			h.store(dataAt(h.s, slot), uint64(data))
		}
		h.store(linkAt(h.s, slot), at.w)
		if h.swap(at.p, at.w, link(slot)) {
			h.point(h.moves - 1)
			h.shift(slot, api.StateLinked)
			h.count(1)
			h.leaves()
			return yes
		}
	}
}

func (h *hand) remove(key int) api.Answer {
	root := h.root(key)
	for {
		at := h.find(root, keyAt(key))
		if !at.there {
			h.point(at.point)
			h.leaves()
			return no
		}
		if !h.swap(linkAt(h.s, at.cur), at.x, at.x|markBit) {
			continue
		}
		h.point(h.moves - 1)
		data := h.load(dataAt(h.s, at.cur))
		if h.swap(at.p, at.w, at.x) {
			h.shift(at.cur, api.StateDetached)
			h.retire(at.cur)
		} else {
			h.find(root, keyAt(key))
		}
		h.count(-1)
		h.leaves()
		return value(int(data))
	}
}

func (h *hand) get(key int) api.Answer {
	at := h.find(h.root(key), keyAt(key))
	h.point(at.point)
	if !at.there {
		h.leaves()
		return no
	}
	data := h.load(dataAt(h.s, at.cur))
	h.leaves()
	return value(int(data))
}

func (h *hand) register() api.Answer {
	for i := range h.c.Records {
		if h.load(activeAt(h.s, i)) != 1 && h.swap(activeAt(h.s, i), 0, 1) {
			h.held[h.thread] = i
			return value(i)
		}
	}
	return full
}

func (h *hand) unregister() {
	for k := range h.c.Hazards {
		h.store(h.own(k), 0)
	}
	h.scan()
	h.flush()
	h.store(activeAt(h.s, h.held[h.thread]), 0)
	h.held[h.thread] = -1
}

func (h *hand) post(v int) api.Answer {
	slot := h.take()
	if slot < 0 {
		h.point(h.moves - 1)
		return full
	}
	h.store(valueAt(h.s, slot), uint64(v))
	for {
		w := h.load(cellAt)
		if !h.swap(cellAt, w, link(slot)) {
			continue
		}
		h.point(h.moves - 1)
		h.shift(slot, api.StateLinked)
		if w != 0 {
			h.shift(slotIn(w), api.StateDetached)
			h.retire(slotIn(w))
		}
		return done
	}
}

func (h *hand) read(k int) api.Answer {
	w := h.load(cellAt)
	for w != 0 {
		h.store(h.own(k), w)
		v := h.load(cellAt)
		if v == w {
			seen := h.moves - 1
			v = h.load(valueAt(h.s, slotIn(w)))
			h.point(seen)
			return value(int(v))
		}
		w = v
	}
	h.point(h.moves - 1)
	return empty
}

func (h *hand) retire(slot int) {
	h.shift(slot, api.StateRetired)
	own := h.held[h.thread]
	h.lists[own] = append(h.lists[own], slot)
	if len(h.lists[own]) >= h.c.Retire {
		h.scan()
	}
}

func (h *hand) scan() {
	own := h.held[h.thread]
	for j := range h.c.Records {
		if j != own && h.load(activeAt(h.s, j)) != 1 && h.swap(activeAt(h.s, j), 0, 1) {
			h.lists[own] = slices.Concat(h.lists[own], h.lists[j])
			h.lists[j] = nil
			h.store(activeAt(h.s, j), 0)
		}
	}
	if len(h.lists[own]) == 0 {
		return
	}
	var names []int
	for i := range h.c.Records * h.c.Hazards {
		names = append(names, slotIn(h.load(hazardAt(h.s, 0, i))))
	}
	var stay, pending []int
	for _, slot := range h.lists[own] {
		if slices.Contains(names, slot) {
			stay = append(stay, slot)
		} else {
			pending = append(pending, slot)
		}
	}
	h.lists[own] = stay
	for _, slot := range pending {
		h.give(slot)
	}
}

func (h *hand) take() int {
	cache := h.caches[h.thread]
	if n := len(cache); n > 0 {
		h.caches[h.thread] = cache[:n-1]
		h.shift(cache[n-1], api.StateOwned)
		return cache[n-1]
	}
	for {
		w := h.load(freeAt)
		slot := int(w&(1<<32-1)) - 1
		if slot < 0 {
			return -1
		}
		n := h.load(spareAt(h.s, slot))
		if h.swap(freeAt, w, w>>32<<32+1<<32+n) {
			h.shift(slot, api.StateOwned)
			return slot
		}
	}
}

func (h *hand) give(slot int) {
	if len(h.caches[h.thread]) < h.c.Cache {
		h.caches[h.thread] = append(h.caches[h.thread], slot)
		h.shift(slot, api.StateCached)
		return
	}
	h.put(slot)
}

func (h *hand) flush() {
	for n := len(h.caches[h.thread]); n > 0; n-- {
		h.put(h.caches[h.thread][n-1])
		h.caches[h.thread] = h.caches[h.thread][:n-1]
	}
}

func (h *hand) put(slot int) {
	for {
		w := h.load(freeAt)
		h.store(spareAt(h.s, slot), w&(1<<32-1))
		if h.swap(freeAt, w, w>>32<<32+1<<32+link(slot)) {
			h.shift(slot, api.StateFree)
			return
		}
	}
}

func (h *hand) own(k int) int { return hazardAt(h.s, h.held[h.thread], k) }

func (h *hand) point(move int) { h.run.Calls[h.call].Point = move }

func (h *hand) shift(slot int, to api.State) {
	h.run.Shifts = append(h.run.Shifts, api.Shift{Move: h.moves - 1, Thread: h.thread, Slot: slot, From: h.states[slot], To: to})
	h.states[slot] = to
}

// access waits for the step in which an access is made, and records it.
func (h *hand) access(kind api.AccessKind, addr int, old, w uint64) uint64 {
	if !h.yield(struct{}{}) {
		panic(left)
	}
	a := api.Access{Move: h.moves - 1, Thread: h.thread, Kind: kind, Addr: addr, Old: old, New: w}
	saw := h.run.Words[addr]
	if kind != api.AccessStore {
		a.Saw = saw
	}
	if kind == api.AccessStore || kind == api.AccessSwap && saw == old {
		h.run.Words[addr] = w
	}
	h.run.Trace = append(h.run.Trace, a)
	return saw
}

func (h *hand) load(addr int) uint64 { return h.access(api.AccessLoad, addr, 0, 0) }

func (h *hand) store(addr int, w uint64) { h.access(api.AccessStore, addr, 0, w) }

func (h *hand) swap(addr int, old, w uint64) bool {
	return h.access(api.AccessSwap, addr, old, w) == old
}

// P23.1 to P23.6: the runs are those that the simplest machine tells, behind every move.
func TestRunsAgainstThePlainMachine(t *testing.T) {
	eachChance(t, 250, func(s api.Split, moves []api.Move) {
		p, y := plainOf(s), yardOf(t, s)
		defer p.leave()
		for _, mv := range moves {
			p.move(mv)
			y.m.Move(mv)
			wantRun(t, y.m.Run(), p.run)
			for thread, g := range p.busy {
				if y.m.Busy(thread) != (g != nil) {
					t.Fatalf("behind move %d: Busy(%d) is %v", y.now(), thread, g == nil)
				}
			}
		}
		wantRun(t, playOf(t, s, moves...), p.run)
	})
}

// Scripts that are long, held against the simplest machine at their ends alone.
func TestLongRunsAgainstThePlainMachine(t *testing.T) {
	d := dice(5)
	for i := range 12 {
		s := chanceSplit(&d)
		if i < 4 {
			s = splitOf(api.MaxThreads, 1+d.below(20), d.below(3), 1+d.below(api.MaxSlots), 1+d.below(api.MaxBuckets), 1+d.below(3))
		}
		moves := chanceOf(t, &d, s).moves(20000)
		p := plainOf(s)
		for _, mv := range moves {
			p.move(mv)
		}
		p.leave()
		wantRun(t, playOf(t, s, moves...), p.run)
	}
}
