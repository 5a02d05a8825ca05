package machine

import "reclaim/api"

// Desk is what a task works at, for the time of one step. One that no machine handed out, and one
// whose step is over, does nothing and answers zero values.
type Desk struct {
	bench *bench
}

// bench is what a desk is made of: the book, and in it the memory, of the machine whose step it
// is. It is no part of Desk's face, so that a task has no way to the memory but the desk's calls.
type bench struct {
	*book
	thread *thread
	number int // the thread's
	now    int
	spent  bool // the step's access is made
}

// Thread is the thread whose step it is.
func (d *Desk) Thread() int {
	if !d.open() {
		return 0
	}
	return d.bench.number
}

// Now is the move's number.
func (d *Desk) Now() int {
	if !d.open() {
		return 0
	}
	return d.bench.now
}

// Load reads a word.
func (d *Desk) Load(addr int) uint64 {
	if !d.access() {
		return 0
	}
	saw, e := d.bench.Load(d.bench.number, addr)
	d.bench.spent = e == api.OK
	return saw
}

// Store writes a word.
func (d *Desk) Store(addr int, w uint64) {
	if !d.access() {
		return
	}
	e := d.bench.Store(d.bench.number, addr, w)
	d.bench.spent = e == api.OK
}

// Swap writes a word, if the old one stands there.
func (d *Desk) Swap(addr int, old uint64, w uint64) bool {
	if !d.access() {
		return false
	}
	_, ok, e := d.bench.Swap(d.bench.number, addr, old, w)
	d.bench.spent = e == api.OK
	return ok
}

// Shift notes a slot's change of state.
func (d *Desk) Shift(slot int, from api.State, to api.State) {
	if !d.open() {
		return
	}
	b := d.bench
	b.shifts = append(b.shifts, api.Shift{Move: b.now, Thread: b.number, Slot: slot, From: from, To: to})
}

// Point tells the call's point, a move's number.
func (d *Desk) Point(move int) {
	if d.open() {
		d.bench.calls[d.bench.thread.call].Point = move
	}
}

// Answer tells what the call answers.
func (d *Desk) Answer(a api.Answer) {
	if d.open() {
		d.bench.thread.told = a
	}
}

// open tells whether the desk is one of a step that is being made.
func (d *Desk) open() bool {
	return d != nil && d.bench != nil && d.bench.book != nil
}

// access tells whether the step may still make its access, and has it logged under this move. What
// is refused for its address does nothing, so it is not the step's access either.
func (d *Desk) access() bool {
	if !d.open() || d.bench.spent {
		return false
	}
	d.bench.Memory.Now(d.bench.now)
	return true
}
