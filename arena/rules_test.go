package arena_test

import (
	"iter"
	"slices"
	"testing"

	"reclaim/api"
	"reclaim/word"
)

// dice are the same numbers each time.
type dice uint64

func (d *dice) below(n int) int {
	*d = *d*6364136223846793005 + 1442695040888963407
	return int(uint64(*d) >> 33 % uint64(n))
}

// chanceMoves are moves of the arena's calls and others; steps come several at a time, so that calls
// end.
func chanceMoves(d *dice, c api.Config, count int) []api.Move {
	var moves []api.Move
	for len(moves) < count {
		thread := d.below(c.Threads)
		if d.below(30) == 0 {
			thread = c.Threads - (c.Threads+1)*d.below(2)
		}
		switch d.below(8) {
		case 0:
			moves = append(moves, take(thread))
		case 1, 2, 3:
			moves = append(moves, give(thread, d.below(c.Slots+2)-1))
		case 4:
			moves = append(moves, flush(thread), api.Move{Thread: thread, Op: api.OpLook})
		default:
			moves = append(moves, slices.Repeat([]api.Move{step(thread)}, 1+d.below(4))...)
		}
	}
	return moves[:count]
}

// eachChance goes through scripts over arenas of many sizes.
func eachChance(count int, do func(c api.Config, moves []api.Move)) {
	d := dice(5)
	for range count {
		c := configOf(1+d.below(4), 1+d.below(6), d.below(4))
		do(c, chanceMoves(&d, c, d.below(300)))
	}
}

// wantWhole is P4.9: each slot is free just if the free list has it, cached just if one cache has
// it, once; no cache has more than Cache slots.
func (y *yard) wantWhole(t *testing.T) {
	t.Helper()
	c := y.Config()
	free, ok := freeList(c, y.m.Run().Words)
	if !ok {
		t.Fatalf("the free list has %v", free)
	}
	cached := map[int]int{} // how often, by slots
	for thread := range c.Threads {
		cache := y.Cached(thread)
		if len(cache) > c.Cache {
			t.Fatalf("Cached(%d) = %v, but Cache is %d", thread, cache, c.Cache)
		}
		for _, slot := range cache {
			cached[slot]++
			y.wantState(t, slot, api.StateCached, thread)
		}
	}
	counts := map[api.State]int{}
	for slot := range c.Slots {
		s, h, _ := y.State(slot)
		counts[s]++
		if (s == api.StateFree) != slices.Contains(free, slot) || h != holderIn(s, h) {
			t.Fatalf("slot %d is %d with %d, and the free list has %v", slot, s, h, free)
		}
		if want := map[bool]int{true: 1}[s == api.StateCached]; cached[slot] != want {
			t.Fatalf("slot %d is %d, and %d times in the caches", slot, s, cached[slot])
		}
	}
	for _, s := range allStates {
		if y.Count(s) != counts[s] {
			t.Fatalf("Count(%d) = %d, not %d", s, y.Count(s), counts[s])
		}
	}
}

// P4.9 and P4.11: behind every move of chance scripts.
func TestNothingLostNothingDoubled(t *testing.T) {
	fulls := 0
	eachChance(300, func(c api.Config, moves []api.Move) {
		y := yardOf(t, c, 0)
		y.wantWhole(t)
		for i, mv := range moves {
			y.m.Move(mv)
			y.wantWhole(t)
			call, _ := y.m.Call(mv.Thread)
			if call.End != i || call.Answer != full {
				continue
			}
			fulls++
			if y.Count(api.StateFree) != 0 || len(y.Cached(mv.Thread)) != 0 {
				t.Fatalf("%+v, but %d are free, and cached %v", call, y.Count(api.StateFree), y.Cached(mv.Thread))
			}
		}
	})
	if fulls == 0 {
		t.Error("no script comes to AnswerFull")
	}
}

// P4.10: a slot that a take has told is told by no other until a give of it has begun.
func TestNobodyShares(t *testing.T) {
	takes := 0
	eachChance(300, func(c api.Config, moves []api.Move) {
		r := playOf(t, c, moves...)
		owner := map[int]int{} // a slot's owner plus 1
		for i := range moves {
			for _, call := range r.Calls {
				slot := call.Answer.Value
				switch {
				case call.Op == api.OpGive && call.Begin == i:
					if owner[call.Arg] != call.Thread+1 {
						t.Fatalf("%+v, but the owner is %d", call, owner[call.Arg]-1)
					}
					owner[call.Arg] = 0
				case call.Op == api.OpTake && call.End == i && call.Answer.Kind == api.AnswerValue:
					if slot < 0 || slot >= c.Slots || owner[slot] != 0 {
						t.Fatalf("%+v, but the owner is %d", call, owner[slot]-1)
					}
					owner[slot] = call.Thread + 1
					takes++
				}
			}
		}
	})
	if takes == 0 {
		t.Error("no script comes to a take")
	}
}

// P4.12: a swap of Free fails only if another thread's has succeeded since this thread's load of it;
// each that succeeds raises the tag by 1, and nothing else does.
func TestSwapsAndTags(t *testing.T) {
	fails := 0
	eachChance(300, func(c api.Config, moves []api.Move) {
		tag := uint32(0)
		loaded := map[int]uint32{} // the tag at a thread's last load of Free
		for _, a := range playOf(t, c, moves...).Trace {
			switch {
			case a.Addr != 0 && a.Kind == api.AccessSwap, a.Addr == 0 && a.Kind == api.AccessStore:
				t.Fatalf("%+v", a)
			case a.Addr != 0:
				continue
			case a.Kind == api.AccessLoad:
				loaded[a.Thread] = tag
			case a.Saw == a.Old:
				tag++
				if uint32(a.New>>32) != tag {
					t.Fatalf("%+v, but the tag ahead of it is %d", a, tag-1)
				}
				continue
			default:
				fails++
				if loaded[a.Thread] == tag {
					t.Fatalf("%+v fails, but the tag is %d all the time", a, tag)
				}
			}
			if uint32(a.Saw>>32) != tag {
				t.Fatalf("%+v, but the tag is %d", a, tag)
			}
		}
	})
	if fails == 0 {
		t.Error("no script comes to a swap that fails")
	}
}

// P4.12: a part that is stepped alone ends within 3 accesses, a flush within 3 for each slot of the
// cache, wherever the other threads are in theirs.
func TestAlone(t *testing.T) {
	eachChance(300, func(c api.Config, moves []api.Move) {
		y := yardOf(t, c, 0)
		for _, mv := range moves {
			y.m.Move(mv)
		}
		for thread := range c.Threads {
			if y.m.Busy(thread) {
				continue
			}
			for _, mv := range []api.Move{take(thread), flush(thread), take(thread)} {
				cached, before := len(y.Cached(thread)), len(y.m.Run().Trace)
				y.call(t, mv)
				made, most := len(y.m.Run().Trace)-before, 3
				if mv.Op == api.OpFlush {
					most = 3 * cached
				}
				if made > most {
					t.Fatalf("%+v alone makes %d accesses", mv, made)
				}
			}
		}
	})
}

// plain is the arena with its calls, told in the simplest way: each call is a function that waits
// ahead of its accesses.
type plain struct {
	c      api.Config
	run    api.Run
	moves  int
	states []api.State
	holder []int
	caches [][]int
	busy   []*going
}

// going is a call on its way.
type going struct {
	call  int
	first bool
	next  func() (struct{}, bool)
	stop  func()
}

// wait is what a call waits by; false: it is not to go on.
type wait func() bool

func plainOf(c api.Config) *plain {
	words, _ := word.First(c, 0)
	return &plain{
		c: c, run: api.Run{Words: words},
		states: make([]api.State, c.Slots),
		holder: slices.Repeat([]int{-1}, c.Slots),
		caches: make([][]int, c.Threads),
		busy:   make([]*going, c.Threads),
	}
}

func (p *plain) move(mv api.Move) {
	p.moves++
	if mv.Thread < 0 || mv.Thread >= p.c.Threads {
		return
	}
	g := p.busy[mv.Thread]
	switch {
	case mv.Op == api.OpStep && g != nil:
		p.step(mv.Thread, g)
	case mv.Op != api.OpStep && g == nil:
		p.begin(mv)
	}
}

func (p *plain) begin(mv api.Move) {
	var body func(thread int, w wait) api.Answer
	switch mv.Op {
	case api.OpTake:
		body = p.take
	case api.OpGive:
		if mv.Arg < 0 || mv.Arg >= p.c.Slots || p.states[mv.Arg] != api.StateOwned || p.holder[mv.Arg] != mv.Thread {
			return
		}
		body = func(thread int, w wait) api.Answer { return p.give(thread, mv.Arg, w) }
	case api.OpFlush:
		body = p.flush
	default:
		return
	}
	number := len(p.run.Calls)
	p.run.Calls = append(p.run.Calls, api.Call{
		Thread: mv.Thread, Op: mv.Op, Arg: mv.Arg, Data: mv.Data, Begin: p.moves - 1, End: -1, Point: -1,
	})
	next, stop := iter.Pull(func(yield func(struct{}) bool) {
		answer := body(mv.Thread, func() bool { return yield(struct{}{}) })
		p.run.Calls[number].Answer = answer
	})
	p.busy[mv.Thread] = &going{call: number, first: true, next: next, stop: stop}
}

func (p *plain) step(thread int, g *going) {
	goes := true
	if g.first {
		_, goes = g.next()
	}
	g.first = false
	if goes {
		_, goes = g.next()
	}
	if !goes {
		p.run.Calls[g.call].End = p.moves - 1
		p.busy[thread] = nil
	}
}

// leave ends the calls that are on their way.
func (p *plain) leave() {
	for _, g := range p.busy {
		if g != nil {
			g.stop()
		}
	}
}

func (p *plain) take(thread int, w wait) api.Answer {
	if n := len(p.caches[thread]); n > 0 {
		slot := p.caches[thread][n-1]
		p.caches[thread] = p.caches[thread][:n-1]
		p.shift(thread, slot, api.StateOwned)
		return value(slot)
	}
	for w() {
		h := p.load(thread, 0)
		slot := int(h&(1<<32-1)) - 1
		if slot < 0 {
			return full
		}
		if !w() {
			break
		}
		n := p.load(thread, spareOf(p.c, slot))
		if !w() {
			break
		}
		if p.swap(thread, h, h>>32<<32+1<<32+n) {
			p.shift(thread, slot, api.StateOwned)
			return value(slot)
		}
	}
	return api.Answer{}
}

func (p *plain) give(thread, slot int, w wait) api.Answer {
	if len(p.caches[thread]) < p.c.Cache {
		p.caches[thread] = append(p.caches[thread], slot)
		p.shift(thread, slot, api.StateCached)
		return done
	}
	p.put(thread, slot, w)
	return done
}

func (p *plain) flush(thread int, w wait) api.Answer {
	for n := len(p.caches[thread]); n > 0; n-- {
		if !p.put(thread, p.caches[thread][n-1], w) {
			break
		}
		p.caches[thread] = p.caches[thread][:n-1]
	}
	return done
}

func (p *plain) put(thread, slot int, w wait) bool {
	for w() {
		h := p.load(thread, 0)
		if !w() {
			break
		}
		p.store(thread, spareOf(p.c, slot), h&(1<<32-1))
		if !w() {
			break
		}
		if p.swap(thread, h, h>>32<<32+1<<32+uint64(slot)+1) {
			p.shift(thread, slot, api.StateFree)
			return true
		}
	}
	return false
}

func (p *plain) shift(thread, slot int, to api.State) {
	p.run.Shifts = append(p.run.Shifts, api.Shift{Move: p.moves - 1, Thread: thread, Slot: slot, From: p.states[slot], To: to})
	p.states[slot], p.holder[slot] = to, holderIn(to, thread)
}

func (p *plain) access(a api.Access) {
	a.Move = p.moves - 1
	p.run.Trace = append(p.run.Trace, a)
}

func (p *plain) load(thread, addr int) uint64 {
	saw := p.run.Words[addr]
	p.access(api.Access{Thread: thread, Kind: api.AccessLoad, Addr: addr, Saw: saw})
	return saw
}

func (p *plain) store(thread, addr int, w uint64) {
	p.run.Words[addr] = w
	p.access(api.Access{Thread: thread, Kind: api.AccessStore, Addr: addr, New: w})
}

func (p *plain) swap(thread int, old, w uint64) bool {
	saw := p.run.Words[0]
	p.access(api.Access{Thread: thread, Kind: api.AccessSwap, Old: old, New: w, Saw: saw})
	if saw == old {
		p.run.Words[0] = w
	}
	return saw == old
}

// P4.4 to P4.8: the runs are those that the simplest arena tells, behind every move.
func TestRunsAgainstThePlainArena(t *testing.T) {
	eachChance(150, func(c api.Config, moves []api.Move) {
		p, y := plainOf(c), yardOf(t, c, 0)
		defer p.leave()
		for _, mv := range moves {
			p.move(mv)
			y.m.Move(mv)
			wantRun(t, y.m.Run(), p.run)
			for slot := range c.Slots {
				y.wantState(t, slot, p.states[slot], p.holder[slot])
			}
			for thread := range c.Threads {
				y.wantCache(t, thread, p.caches[thread]...)
			}
		}
		wantRun(t, playOf(t, c, moves...), p.run)
	})
}
