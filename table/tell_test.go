package table_test

import (
	"slices"

	"reclaim/api"
)

// Moves.

func step(thread int) api.Move { return api.Move{Thread: thread, Op: api.OpStep} }

func register(thread int) api.Move { return api.Move{Thread: thread, Op: api.OpRegister} }

func unregister(thread int) api.Move { return api.Move{Thread: thread, Op: api.OpUnregister} }

func post(thread, value int) api.Move { return api.Move{Thread: thread, Op: api.OpPost, Arg: value} }

func read(thread, k int) api.Move { return api.Move{Thread: thread, Op: api.OpRead, Arg: k} }

func clearing(thread, k int) api.Move { return api.Move{Thread: thread, Op: api.OpClear, Arg: k} }

func scan(thread int) api.Move { return api.Move{Thread: thread, Op: api.OpScan} }

func add(thread, key, data int) api.Move {
	return api.Move{Thread: thread, Op: api.OpAdd, Arg: key, Data: data}
}

func remove(thread, key int) api.Move { return api.Move{Thread: thread, Op: api.OpRemove, Arg: key} }

func get(thread, key int) api.Move { return api.Move{Thread: thread, Op: api.OpGet, Arg: key} }

// poked stores a word at an address.
func poked(thread, addr int, w uint64) api.Move {
	return api.Move{Thread: thread, Op: opPoke, Arg: addr, Data: int(w)}
}

// with is a move with steps of its thread behind it.
func with(mv api.Move, steps int) []api.Move {
	return append([]api.Move{mv}, slices.Repeat([]api.Move{step(mv.Thread)}, steps)...)
}

// Answers.

func value(v int) api.Answer { return api.Answer{Kind: api.AnswerValue, Value: v} }

var (
	full  = api.Answer{Kind: api.AnswerFull}
	done  = api.Answer{Kind: api.AnswerDone}
	empty = api.Answer{Kind: api.AnswerEmpty}
	yes   = api.Answer{Kind: api.AnswerYes}
	no    = api.Answer{Kind: api.AnswerNo}
)

// Accesses.

func load(thread, addr int, saw uint64) api.Access {
	return api.Access{Thread: thread, Kind: api.AccessLoad, Addr: addr, Saw: saw}
}

func store(thread, addr int, w uint64) api.Access {
	return api.Access{Thread: thread, Kind: api.AccessStore, Addr: addr, New: w}
}

func swap(thread, addr int, old, w, saw uint64) api.Access {
	return api.Access{Thread: thread, Kind: api.AccessSwap, Addr: addr, Old: old, New: w, Saw: saw}
}

// shift is a change of a slot's state; its move is not told.
func shift(thread, slot int, from, to api.State) api.Shift {
	return api.Shift{Thread: thread, Slot: slot, From: from, To: to}
}

// head and link are words as chapter 1 packs them, told by hand.
func head(tag, slot int) uint64 { return uint64(tag)<<32 + uint64(slot+1) }

func link(slot int) uint64 { return uint64(slot + 1) }

// markBit is a link's mark.
const markBit uint64 = 1 << 32

func marked(slot int) uint64 { return link(slot) | markBit }

// slotIn is the slot in a link.
func slotIn(w uint64) int { return int(w&^markBit) - 1 }

// track tells accesses of a thread that holds the record of its number, in the bucket of that root.
type track struct {
	*yard
	thread int
	root   int
}

// track tells those of a thread in a key's bucket.
func (y *yard) track(thread, key int) track { return track{y, thread, rootOf(y.c, key)} }

// first are the lines F1 to F3.
func (k track) first(slot int) []api.Access {
	w := link(slot)
	return []api.Access{load(k.thread, k.root, w), store(k.thread, k.hazardAt(k.thread, 1), w), load(k.thread, k.root, w)}
}

// look are the lines F4 to F8 over a slot, with where it was seen, its link and its key.
func (k track) look(at int, slot int, x uint64, key int) []api.Access {
	return []api.Access{load(k.thread, k.linkAt(slot), x), store(k.thread, k.hazardAt(k.thread, 0), x&^markBit), load(k.thread, k.linkAt(slot), x),
		load(k.thread, k.valueAt(slot), uint64(key)), load(k.thread, at, link(slot))}
}

// pass are the lines F9 and F10.
func (k track) pass(slot, next int) []api.Access {
	return []api.Access{store(k.thread, k.hazardAt(k.thread, 2), link(slot)), store(k.thread, k.hazardAt(k.thread, 1), link(next))}
}

// unlink is the line F11, succeeding.
func (k track) unlink(at int, slot int, x uint64) []api.Access {
	return []api.Access{swap(k.thread, at, link(slot), x&^markBit, link(slot))}
}

// name is the line F12.
func (k track) name(slot int) []api.Access {
	return []api.Access{store(k.thread, k.hazardAt(k.thread, 1), link(slot))}
}

// take are the accesses of the part Take that takes a slot off the free list, with the one behind it.
func (k track) take(tag, slot, behind int) []api.Access {
	return []api.Access{load(k.thread, freeAddr, head(tag, slot)), load(k.thread, k.addr(api.RegionSpare, slot, 0), link(behind)),
		swap(k.thread, freeAddr, head(tag, slot), head(tag+1, behind), head(tag, slot))}
}

// give are the accesses of the part Give.
func (k track) give(tag, slot, behind int) []api.Access {
	return []api.Access{load(k.thread, freeAddr, head(tag, behind)), store(k.thread, k.addr(api.RegionSpare, slot, 0), link(behind)),
		swap(k.thread, freeAddr, head(tag, behind), head(tag+1, slot), head(tag, behind))}
}

// fill are the lines I1 and I2.
func (k track) fill(slot, key, data int) []api.Access {
	return []api.Access{store(k.thread, k.valueAt(slot), uint64(key)), store(k.thread, k.dataAt(slot), uint64(data))}
}

// put are the lines I3 and I4, succeeding.
func (k track) put(at int, w uint64, slot int) []api.Access {
	return []api.Access{store(k.thread, k.linkAt(slot), w), swap(k.thread, at, w, link(slot), w)}
}

// see is the load of a slot's data.
func (k track) see(slot, data int) []api.Access {
	return []api.Access{load(k.thread, k.dataAt(slot), uint64(data))}
}

// out are the three lines of a Remove, succeeding.
func (k track) out(at int, slot int, x uint64, data int) []api.Access {
	return slices.Concat([]api.Access{swap(k.thread, k.linkAt(slot), x, x|markBit, x)}, k.see(slot, data),
		[]api.Access{swap(k.thread, at, link(slot), x, link(slot))})
}

// leave is the part Leave.
func (k track) leave() []api.Access {
	return []api.Access{store(k.thread, k.hazardAt(k.thread, 0), 0), store(k.thread, k.hazardAt(k.thread, 1), 0), store(k.thread, k.hazardAt(k.thread, 2), 0)}
}
