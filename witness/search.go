package witness

import (
	"iter"

	"reclaim/api"
	"reclaim/model"
)

// Find is the least order that explains the calls.
func Find(calls []api.Call) ([]int, api.Errno) {
	s, e := newSearch(calls)
	if e != api.OK {
		return nil, e
	}
	order, found := s.least(stand{}, nil)
	if !found {
		return nil, api.ErrNone
	}
	return order, api.OK
}

// Count is how many orders explain the calls.
func Count(calls []api.Call) (int, api.Errno) {
	s, e := newSearch(calls)
	if e != api.OK {
		return 0, e
	}
	return s.count(stand{}), api.OK
}

// search has the calls that count, told by their places among each other.
type search struct {
	calls   []api.Call
	numbers []int                // what they are called from outside
	ahead   [api.MaxSearch]group // of each call those that must stand in front of it
	ended   group
	seen    map[sight]int // in how many ways the search went on from there: 0 is in vain
}

func newSearch(calls []api.Call) (*search, api.Errno) {
	if !May(calls) {
		return nil, api.ErrCalls
	}
	s := &search{seen: map[sight]int{}}
	for n, c := range calls {
		if !counts(c) {
			continue
		}
		if len(s.calls) == api.MaxSearch {
			return nil, api.ErrLong
		}
		s.calls = append(s.calls, c)
		s.numbers = append(s.numbers, n)
	}
	for i, c := range s.calls {
		if ended(c) {
			s.ended = s.ended.with(i)
		}
		for k, other := range s.calls {
			if ahead(other, c) {
				s.ahead[i] = s.ahead[i].with(k)
			}
		}
	}
	return s, api.OK
}

// least is the least order that goes on from there, behind what stands in it already. An order that is whole is
// lesser than all that go on from it.
func (s *search) least(at stand, order []int) ([]int, bool) {
	if s.whole(at) {
		return order, true
	}
	here := at.sight()
	if _, vain := s.seen[here]; vain {
		return nil, false
	}
	for i, next := range s.onward(at) {
		if found, is := s.least(next, append(order, s.numbers[i])); is {
			return found, true
		}
	}
	s.seen[here] = 0
	return nil, false
}

// count is how many orders go on from there.
func (s *search) count(at stand) int {
	here := at.sight()
	if ways, known := s.seen[here]; known {
		return ways
	}
	ways := 0
	if s.whole(at) {
		ways = 1
	}
	for _, next := range s.onward(at) {
		ways += s.count(next)
	}
	s.seen[here] = ways
	return ways
}

// whole tells whether an order may end there.
func (s *search) whole(at stand) bool { return s.ended.within(at.placed) }

// onward is the calls that may stand next, the least first, each with where the order stands then.
func (s *search) onward(at stand) iter.Seq2[int, stand] {
	return func(yield func(int, stand) bool) {
		for i, c := range s.calls {
			if at.placed.has(i) || !s.ahead[i].within(at.placed) {
				continue
			}
			left, may, _ := model.Allows(at.left, c)
			if may && !yield(i, stand{placed: at.placed.with(i), left: left}) {
				return
			}
		}
	}
}
