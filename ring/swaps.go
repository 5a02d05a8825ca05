package ring

import (
	"cmp"
	"math"
	"slices"
	"sort"

	"reclaim/api"
)

// none stands for what there isn't: a call's End, an access of a trace.
const none = -1

// swaps are the successful swaps of one word in a trace, by thread and move. Which of several stands first
// in the trace is asked by a tree, since in a raw trace moves need not rise, and a call may have any number.
type swaps struct {
	trace []api.Access
	at    []int // where they stand in the trace
	least []int // the tree: the least of at below each node; node 1 is on top, from len(at) on stands at itself
}

func swapsOf(trace []api.Access, addr int) *swaps {
	s := &swaps{trace: trace}
	for i, a := range trace {
		if a.Kind == api.AccessSwap && a.Addr == addr && a.Saw == a.Old {
			s.at = append(s.at, i)
		}
	}
	slices.SortFunc(s.at, func(i, j int) int {
		return compare(trace[i], trace[j].Thread, trace[j].Move)
	})
	s.least = slices.Concat(s.at, s.at)
	for node := len(s.at) - 1; node > 0; node-- {
		s.least[node] = min(s.least[2*node], s.least[2*node+1])
	}
	return s
}

// compare is below 0, 0 or above 0, as an access comes ahead of a thread's move, is of it or comes behind.
func compare(a api.Access, thread, move int) int {
	return cmp.Or(cmp.Compare(a.Thread, thread), cmp.Compare(a.Move, move))
}

// first is where the first of a call's swaps stands in the trace; none, if it has none.
func (s *swaps) first(c api.Call) int {
	last := c.End
	if last == none {
		last = math.MaxInt
	}
	return s.firstOf(s.upTo(c.Thread, c.Begin), s.upTo(c.Thread, last))
}

// upTo is how many of the swaps come ahead of a thread's move or are of it.
func (s *swaps) upTo(thread, move int) int {
	return sort.Search(len(s.at), func(i int) bool {
		return compare(s.trace[s.at[i]], thread, move) > 0
	})
}

// firstOf is where the first of the swaps from one number to ahead of another stands; none, if there are none.
func (s *swaps) firstOf(from, to int) int {
	if from >= to {
		return none
	}
	first := s.at[from]
	for from, to = from+len(s.at), to+len(s.at); from < to; from, to = from/2, to/2 {
		if from%2 == 1 {
			first = min(first, s.least[from])
			from++
		}
		if to%2 == 1 {
			to--
			first = min(first, s.least[to])
		}
	}
	return first
}
