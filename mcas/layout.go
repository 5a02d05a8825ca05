package mcas

import "reclaim/api"

// descriptorWords: a descriptor has its status and its number.
const descriptorWords = 2

// Statuses of a descriptor.
const (
	undecided uint64 = iota
	succeeded
	failed
)

// layout tells the addresses of a memory: the cells, whose addresses are their numbers, the threads' records,
// the descriptors.
type layout struct {
	cells   int
	threads int
	uses    int // how many descriptors each thread has
}

func layoutOf(c api.Multi) layout {
	return layout{cells: len(c.Cells), threads: c.Threads, uses: c.Uses}
}

func (l layout) size() int {
	return l.status(l.descriptors())
}

func (l layout) descriptors() int {
	return l.threads * l.uses
}

// descriptor is the one of a thread's call of OpMulti, by how many of them it began ahead of it.
func (l layout) descriptor(thread, use int) int {
	return thread*l.uses + use
}

// record is the address of a thread's record.
func (l layout) record(thread int) int {
	return l.cells + thread
}

// status is the address of a descriptor's status.
func (l layout) status(d int) int {
	return l.cells + l.threads + descriptorWords*d
}

// number is the address of the number of the swap that a descriptor stands for.
func (l layout) number(d int) int {
	return l.status(d) + 1
}
