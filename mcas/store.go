package mcas

import (
	"slices"

	"reclaim/api"
	"reclaim/machine"
)

// none is no point, and no end.
const none = -1

// store is what a machine's calls work on, beside the memory.
type store struct {
	layout
	swaps   [][]api.MultiEntry
	begun   []int    // how many calls of OpMulti each thread has begun
	puts    []uint64 // how many puts each thread has begun
	decided []int    // the moves at which the descriptors were decided
}

// storeOf keeps nothing of what is handed in: the machine lives on behind the call.
func storeOf(c api.Multi) *store {
	l := layoutOf(c)
	swaps := make([][]api.MultiEntry, len(c.Swaps))
	for which, entries := range c.Swaps {
		swaps[which] = slices.Clone(entries)
	}
	return &store{
		layout:  l,
		swaps:   swaps,
		begun:   make([]int, c.Threads),
		puts:    make([]uint64, c.Threads),
		decided: make([]int, l.descriptors()),
	}
}

// kit are the two calls.
func (s *store) kit() machine.Kit {
	return machine.Kit{api.OpMulti: s.swapper, api.OpMultiRead: s.reader}
}

// swapper begins a call of OpMulti, with the thread's next descriptor.
func (s *store) swapper(thread int, mv api.Move) machine.Task {
	if !within(mv.Arg, 0, len(s.swaps)-1) || s.begun[thread] == s.uses {
		return nil
	}
	d := s.descriptor(thread, s.begun[thread])
	s.begun[thread]++
	return callOf(&swapping{store: s, me: thread, d: d, which: uint64(mv.Arg)})
}

// reader begins a call of OpMultiRead.
func (s *store) reader(thread int, mv api.Move) machine.Task {
	if !within(mv.Arg, 0, s.cells-1) {
		return nil
	}
	return callOf(&reading{store: s, me: thread, cell: mv.Arg})
}
