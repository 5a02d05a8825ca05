package tso

import "reclaim/api"

// look tells which fields a kind of instructions goes by, beside Value and Old, which may be any number.
type look struct {
	reg, addr, from, count bool
}

var looks = [...]look{
	api.InstrLoad:  {reg: true, addr: true},
	api.InstrStore: {addr: true, from: true},
	api.InstrSwap:  {reg: true, addr: true},
	api.InstrFence: {},
	api.InstrSet:   {reg: true},
	api.InstrAdd:   {reg: true},
	api.InstrSkip:  {reg: true, count: true},
}

func within(n, least, greatest int) bool { return n >= least && n <= greatest }

func isOrder(o api.Order) bool { return o >= api.OrderSC && o <= api.OrderPSO }

// checkBoth is for the calls that look at nothing between the program and the order.
func checkBoth(l api.Litmus, o api.Order) api.Errno {
	if e := Check(l); e != api.OK {
		return e
	}
	if !isOrder(o) {
		return api.ErrOrders
	}
	return api.OK
}

func mayBe(l api.Litmus) bool {
	if !within(len(l.Threads), 1, api.MaxParties) || !within(len(l.Words), 1, api.MaxLitmus) {
		return false
	}
	for _, code := range l.Threads {
		if !codeMayBe(code, len(l.Words)) {
			return false
		}
	}
	return true
}

func codeMayBe(code []api.Instr, words int) bool {
	if len(code) > api.MaxCode {
		return false
	}
	for _, in := range code {
		if !instrMayBe(in, words) {
			return false
		}
	}
	return true
}

func instrMayBe(in api.Instr, words int) bool {
	if in.Kind < api.InstrLoad || in.Kind > api.InstrSkip {
		return false
	}
	at := looks[in.Kind]
	return (!at.reg || within(in.Reg, 0, api.LitmusRegs-1)) &&
		(!at.addr || within(in.Addr, 0, words-1)) &&
		(!at.from || within(in.From, -1, api.LitmusRegs-1)) &&
		(!at.count || within(in.Count, 0, api.MaxCode))
}

// isOneOf tells whether a state is one of the program (which may be) and the order.
func isOneOf(l api.Litmus, o api.Order, s api.LitmusState) bool {
	threads := len(l.Threads)
	if len(s.Words) != len(l.Words) || len(s.Regs) != threads || len(s.Places) != threads || len(s.Buffers) != threads {
		return false
	}
	for i, code := range l.Threads {
		if !within(s.Places[i], 0, len(code)) || !bufferMayBe(s.Buffers[i], o, len(l.Words)) {
			return false
		}
	}
	return true
}

func bufferMayBe(buffer []api.Pending, o api.Order, words int) bool {
	if len(buffer) > api.MaxCode || o == api.OrderSC && len(buffer) > 0 {
		return false
	}
	for _, p := range buffer {
		if !within(p.Addr, 0, words-1) {
			return false
		}
	}
	return true
}
