package tso

import "reclaim/api"

// Where the numbers of a state stand. What a final state leaves comes first, in the order by which finals are told.
const (
	regsAt    = api.MaxLitmus
	placesAt  = regsAt + api.MaxParties*api.LitmusRegs
	waitsAt   = placesAt + api.MaxParties
	buffersAt = waitsAt + api.MaxParties
	room      = 2 * (api.MaxCode + 1) // a turn's store goes behind as many as a state may have; two numbers each
	width     = buffersAt + api.MaxParties*room
)

// state is a litmus state in one array of numbers, so that it can be copied, compared and looked up as it is. What is
// not in use is 0.
type state [width]int

// first is the state that a program begins with.
func first(l api.Litmus) state {
	var s state
	copy(s.words(), l.Words)
	return s
}

// read is a state that is one of its program and order, in one array.
func read(from api.LitmusState) state {
	var s state
	copy(s.words(), from.Words)
	for i, regs := range from.Regs {
		copy(s.regs(i), regs[:])
		*s.place(i) = from.Places[i]
		for _, p := range from.Buffers[i] {
			s.join(i, p)
		}
	}
	return s
}

// told is the state as callers know it, in memory of its own.
func (s *state) told(l api.Litmus) api.LitmusState {
	left := s.left(l)
	out := api.LitmusState{Words: left.Words, Regs: left.Regs}
	out.Places = make([]int, len(l.Threads))
	out.Buffers = make([][]api.Pending, len(l.Threads))
	for i := range l.Threads {
		out.Places[i] = *s.place(i)
		out.Buffers[i] = make([]api.Pending, *s.waits(i))
		for n := range out.Buffers[i] {
			out.Buffers[i][n] = s.store(i, n)
		}
	}
	return out
}

// left is the words and registers of a state.
func (s *state) left(l api.Litmus) api.Final {
	out := api.Final{Words: make([]int, len(l.Words)), Regs: make([][api.LitmusRegs]int, len(l.Threads))}
	copy(out.Words, s.words())
	for i := range out.Regs {
		copy(out.Regs[i][:], s.regs(i))
	}
	return out
}

func (s *state) words() []int { return s[:regsAt] }

func (s *state) regs(thread int) []int {
	from := regsAt + thread*api.LitmusRegs
	return s[from : from+api.LitmusRegs]
}

func (s *state) place(thread int) *int { return &s[placesAt+thread] }

// waits is how many stores are in a thread's buffer.
func (s *state) waits(thread int) *int { return &s[waitsAt+thread] }

// buffer is the room for a thread's stores, two numbers for each.
func (s *state) buffer(thread int) []int {
	from := buffersAt + thread*room
	return s[from : from+room]
}

// store is store n of a thread's buffer; the oldest is 0.
func (s *state) store(thread, n int) api.Pending {
	b := s.buffer(thread)
	return api.Pending{Addr: b[2*n], Value: b[2*n+1]}
}

// join puts a store behind a thread's buffer.
func (s *state) join(thread int, p api.Pending) {
	b, n := s.buffer(thread), *s.waits(thread)
	b[2*n], b[2*n+1] = p.Addr, p.Value
	*s.waits(thread)++
}

// leave takes store n out of a thread's buffer. As the last of the room is 0 while no more stores wait than a state may
// have, what moves up leaves 0 behind it: states that are the same are so in what is not in use too.
func (s *state) leave(thread, n int) {
	b := s.buffer(thread)
	copy(b[2*n:], b[2*n+2:])
	*s.waits(thread)--
}
