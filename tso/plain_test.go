package tso_test

import (
	"cmp"
	"fmt"
	"slices"

	"reclaim/api"
)

// plain is a second machine after the chapter's words: states as callers know them, told apart by their texts.
type plain struct {
	l api.Litmus
	o api.Order
}

// mayPlain is the chapter's first word: what may be.
func mayPlain(l api.Litmus) bool {
	if len(l.Threads) < 1 || len(l.Threads) > 4 || len(l.Words) < 1 || len(l.Words) > 6 {
		return false
	}
	for _, c := range l.Threads {
		if len(c) > 10 {
			return false
		}
		for _, in := range c {
			reg := in.Reg >= 0 && in.Reg <= 3
			addr := in.Addr >= 0 && in.Addr < len(l.Words)
			so := false
			switch in.Kind {
			case 1, 3:
				so = reg && addr
			case 2:
				so = addr && in.From >= -1 && in.From <= 3
			case 4:
				so = true
			case 5, 6:
				so = reg
			case 7:
				so = reg && in.Count >= 0 && in.Count <= 10
			}
			if !so {
				return false
			}
		}
	}
	return true
}

// isOnePlain: a state that is one of the program and the order.
func (p plain) isOnePlain(s api.LitmusState) bool {
	n := len(p.l.Threads)
	if len(s.Words) != len(p.l.Words) || len(s.Regs) != n || len(s.Places) != n || len(s.Buffers) != n {
		return false
	}
	for i := range n {
		if s.Places[i] < 0 || s.Places[i] > len(p.l.Threads[i]) || len(s.Buffers[i]) > 10 || p.o == 1 && len(s.Buffers[i]) != 0 {
			return false
		}
		for _, w := range s.Buffers[i] {
			if w.Addr < 0 || w.Addr >= len(s.Words) {
				return false
			}
		}
	}
	return true
}

func (p plain) first() api.LitmusState {
	n := len(p.l.Threads)
	return api.LitmusState{Words: slices.Clone(p.l.Words), Regs: make([]regs, n), Places: make([]int, n), Buffers: make([][]api.Pending, n)}
}

// next is the state behind a turn, and whether anything happened.
func (p plain) next(s api.LitmusState, t api.Turn) (api.LitmusState, bool) {
	s = cloneState(s)
	if t.Thread < 0 || t.Thread >= len(p.l.Threads) {
		return s, false
	}
	if t.Out {
		return p.outPlain(s, t)
	}
	if s.Places[t.Thread] == len(p.l.Threads[t.Thread]) {
		return s, false
	}
	return p.instr(s, t.Thread)
}

func (p plain) outPlain(s api.LitmusState, t api.Turn) (api.LitmusState, bool) {
	b := s.Buffers[t.Thread]
	n := -1
	switch p.o {
	case api.OrderTSO:
		if len(b) > 0 {
			n = 0
		}
	case api.OrderPSO:
		n = slices.IndexFunc(b, func(w api.Pending) bool { return w.Addr == t.Addr })
	}
	if n < 0 {
		return s, false
	}
	s.Words[b[n].Addr] = b[n].Value
	s.Buffers[t.Thread] = append(slices.Clone(b[:n]), b[n+1:]...)
	return s, true
}

func (p plain) instr(s api.LitmusState, i int) (api.LitmusState, bool) {
	all := p.l.Threads[i]
	in := all[s.Places[i]]
	b := s.Buffers[i]
	if (in.Kind == api.InstrSwap || in.Kind == api.InstrFence) && len(b) > 0 {
		return s, false
	}
	s.Places[i]++
	switch in.Kind {
	case api.InstrLoad:
		s.Regs[i][in.Reg] = s.Words[in.Addr]
		for _, w := range b {
			if w.Addr == in.Addr {
				s.Regs[i][in.Reg] = w.Value
			}
		}
	case api.InstrStore:
		v := in.Value
		if in.From >= 0 {
			v = s.Regs[i][in.From]
		}
		if p.o == api.OrderSC {
			s.Words[in.Addr] = v
		} else {
			s.Buffers[i] = append(b, api.Pending{Addr: in.Addr, Value: v})
		}
	case api.InstrSwap:
		if s.Words[in.Addr] == in.Old {
			s.Words[in.Addr], s.Regs[i][in.Reg] = in.Value, 1
		} else {
			s.Regs[i][in.Reg] = 0
		}
	case api.InstrSet:
		s.Regs[i][in.Reg] = in.Value
	case api.InstrAdd:
		s.Regs[i][in.Reg] += in.Value
	case api.InstrSkip:
		for n := 0; s.Regs[i][in.Reg] == in.Value && n < in.Count && s.Places[i] < len(all); n++ {
			s.Places[i]++
		}
	}
	return s, true
}

func (p plain) run(list []api.Turn) (api.LitmusState, int) {
	s, count := p.first(), 0
	for _, t := range list {
		after, happened := p.next(s, t)
		if happened {
			count++
		}
		s = after
	}
	return s, count
}

// edge is a turn from one state to another one, by their texts.
type edge struct {
	turn api.Turn
	to   string
}

// graph is all that a program can come to.
type graph struct {
	first  string
	states map[string]api.LitmusState
	edges  map[string][]edge
}

func name(s api.LitmusState) string { return fmt.Sprint(s) }

// graph goes on till it has met more states than that, or all.
func (p plain) graph(most int) graph {
	s := p.first()
	g := graph{name(s), map[string]api.LitmusState{name(s): s}, map[string][]edge{}}
	work := []string{g.first}
	for len(work) > 0 && len(g.states) <= most {
		from := work[len(work)-1]
		work = work[:len(work)-1]
		for _, t := range p.candidates() {
			after, happened := p.next(g.states[from], t)
			if !happened {
				continue
			}
			to := name(after)
			g.edges[from] = append(g.edges[from], edge{t, to})
			if _, met := g.states[to]; !met {
				g.states[to] = after
				work = append(work, to)
			}
		}
	}
	return g
}

// candidates are all turns that can count, the least first.
func (p plain) candidates() []api.Turn {
	var got []api.Turn
	for i := range p.l.Threads {
		got = append(got, do(i))
		for addr := range p.l.Words {
			if p.o == api.OrderPSO || p.o == api.OrderTSO && addr == 0 {
				got = append(got, outOf(i, addr))
			}
		}
	}
	return got
}

func (p plain) isFinal(s api.LitmusState) bool {
	for i, c := range p.l.Threads {
		if s.Places[i] != len(c) || len(s.Buffers[i]) > 0 {
			return false
		}
	}
	return true
}

func compareFinals(a, b api.Final) int {
	return cmp.Or(slices.Compare(a.Words, b.Words), slices.CompareFunc(a.Regs, b.Regs, func(x, y regs) int { return slices.Compare(x[:], y[:]) }))
}

func (p plain) finals(g graph) []api.Final {
	var got []api.Final
	for _, s := range g.states {
		if p.isFinal(s) {
			got = append(got, cloneFinal(api.Final{Words: s.Words, Regs: s.Regs}))
		}
	}
	slices.SortFunc(got, compareFinals)
	return slices.CompactFunc(got, sameFinal)
}

// reach looks from the end: how far each state is from one that leaves this, and then always the least turn that comes
// nearer.
func (p plain) reach(g graph, f api.Final) ([]api.Turn, bool) {
	far := map[string]int{}
	var ask func(at string) int
	ask = func(at string) int {
		if n, met := far[at]; met {
			return n
		}
		n := greatest
		s := g.states[at]
		if p.isFinal(s) && sameFinal(api.Final{Words: s.Words, Regs: s.Regs}, f) {
			n = 0
		}
		for _, e := range g.edges[at] {
			if m := ask(e.to); m < greatest {
				n = min(n, m+1)
			}
		}
		far[at] = n
		return n
	}
	if ask(g.first) == greatest {
		return nil, false
	}
	var way []api.Turn
	for at := g.first; far[at] > 0; {
		for _, e := range g.edges[at] {
			if far[e.to] == far[at]-1 {
				way = append(way, e.turn)
				at = e.to
				break
			}
		}
	}
	return way, true
}

// fencedPlain puts the fences in one by one, and moves each skip's end along.
func fencedPlain(l api.Litmus) (api.Litmus, bool) {
	got := cloneLitmus(l)
	for i, c := range l.Threads {
		var now []api.Instr
		at := map[int]int{} // where each place has gone
		for n, in := range c {
			at[n] = len(now)
			now = append(now, in)
			if in.Kind == api.InstrStore {
				now = append(now, fence())
			}
		}
		at[len(c)] = len(now)
		if len(now) > 10 {
			return api.Litmus{}, false
		}
		for n, in := range c {
			if in.Kind == api.InstrSkip {
				end := min(n+1+in.Count, len(c))
				beyond := n + 1 + in.Count - end
				now[at[n]].Count = min(at[end]-at[n]-1+beyond, 10)
			}
		}
		got.Threads[i] = now
	}
	return got, true
}
