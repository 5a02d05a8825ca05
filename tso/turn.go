package tso

import "reclaim/api"

// runner makes turns of a program that may be, under an order that there is.
type runner struct {
	program api.Litmus
	order   api.Order
	rules   [api.InstrSkip + 1]rule
}

// rule is what an instruction of some kind does, but for the step to the next place; false: it can't be made now.
type rule func(p party, in api.Instr) bool

// party is the thread whose turn it is, in a state that is changed on the spot.
type party struct {
	*state
	thread int
	order  api.Order
}

func newRunner(l api.Litmus, o api.Order) *runner {
	return &runner{program: l, order: o, rules: rules()}
}

func rules() [api.InstrSkip + 1]rule {
	return [api.InstrSkip + 1]rule{
		api.InstrLoad:  party.loads,
		api.InstrStore: party.stores,
		api.InstrSwap:  party.swaps,
		api.InstrFence: party.fences,
		api.InstrSet:   party.sets,
		api.InstrAdd:   party.adds,
		api.InstrSkip:  party.skips,
	}
}

// turn makes a turn, and tells whether anything happened.
func (r *runner) turn(s *state, t api.Turn) bool {
	if !within(t.Thread, 0, len(r.program.Threads)-1) {
		return false
	}
	p := party{state: s, thread: t.Thread, order: r.order}
	if t.Out {
		return p.out(t.Addr)
	}
	return r.instruction(p, r.program.Threads[t.Thread])
}

func (r *runner) instruction(p party, code []api.Instr) bool {
	place := p.place(p.thread)
	if *place == len(code) {
		return false
	}
	in := code[*place]
	if !r.rules[in.Kind](p, in) {
		return false
	}
	*place = min(*place+1, len(code))
	return true
}

// out lets a store out: the oldest of all, or under OrderPSO the oldest of a word. Under OrderSC none ever waits.
func (p party) out(addr int) bool {
	for n := range *p.waits(p.thread) {
		if s := p.store(p.thread, n); p.order == api.OrderTSO || s.Addr == addr {
			p.words()[s.Addr] = s.Value
			p.leave(p.thread, n)
			return true
		}
	}
	return false
}

func (p party) reg(n int) *int { return &p.regs(p.thread)[n] }

func (p party) isWaiting() bool { return *p.waits(p.thread) > 0 }

func (p party) loads(in api.Instr) bool {
	*p.reg(in.Reg) = p.seen(in.Addr)
	return true
}

// seen is what the thread sees in a word: its own newest store, if that still waits.
func (p party) seen(addr int) int {
	for n := *p.waits(p.thread) - 1; n >= 0; n-- {
		if s := p.store(p.thread, n); s.Addr == addr {
			return s.Value
		}
	}
	return p.words()[addr]
}

func (p party) stores(in api.Instr) bool {
	value := in.Value
	if in.From != -1 {
		value = *p.reg(in.From)
	}
	if p.order == api.OrderSC {
		p.words()[in.Addr] = value
	} else {
		p.join(p.thread, api.Pending{Addr: in.Addr, Value: value})
	}
	return true
}

func (p party) swaps(in api.Instr) bool {
	if p.isWaiting() {
		return false
	}
	*p.reg(in.Reg) = 0
	if p.words()[in.Addr] == in.Old {
		p.words()[in.Addr] = in.Value
		*p.reg(in.Reg) = 1
	}
	return true
}

func (p party) fences(api.Instr) bool { return !p.isWaiting() }

func (p party) sets(in api.Instr) bool {
	*p.reg(in.Reg) = in.Value
	return true
}

func (p party) adds(in api.Instr) bool {
	*p.reg(in.Reg) += in.Value
	return true
}

func (p party) skips(in api.Instr) bool {
	if *p.reg(in.Reg) == in.Value {
		*p.place(p.thread) += in.Count
	}
	return true
}
