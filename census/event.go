package census

import (
	"cmp"
	"slices"

	"reclaim/api"
)

// kind is a kind of events.
type kind int

// The kinds of events, in the order in which those of one move are gone through: a move's access counts as made ahead
// of its shifts, and what is done in the move that ends a call is the call's.
const (
	opens kind = iota // a move comes, of which nothing has been told yet
	begins
	accesses
	shifts
	ends
	closes // all of a move has been told
	kinds
)

// event is one thing that a run has.
type event struct {
	kind   kind
	move   int
	thread int
	number int // of the call, the access or the shift in its list
}

// eventsOf is all that a run has but for the moves' opening and closing, in its order. The run may be any: its moves
// are only held against each other.
func eventsOf(r api.Run) []event {
	out := make([]event, 0, 2*len(r.Calls)+len(r.Trace)+len(r.Shifts))
	for i, c := range r.Calls {
		out = append(out, event{begins, c.Begin, c.Thread, i})
		if ended(c) {
			out = append(out, event{ends, c.End, c.Thread, i})
		}
	}
	for i, a := range r.Trace {
		out = append(out, event{accesses, a.Move, a.Thread, i})
	}
	for i, s := range r.Shifts {
		out = append(out, event{shifts, s.Move, s.Thread, i})
	}
	slices.SortFunc(out, func(a, b event) int {
		return cmp.Or(cmp.Compare(a.move, b.move), cmp.Compare(a.kind, b.kind), cmp.Compare(a.number, b.number))
	})
	return out
}

// monitor is told of an event, and tells whether the run is to be gone on with.
type monitor func(e event) bool

// table is the monitors of each kind of events, in the order in which they are told of one.
type table [kinds][]monitor

// watch tells the monitors of all events, up to the first one behind which one of them doesn't go on; it tells
// whether there was none.
func (t table) watch(events []event) bool {
	for i, e := range events {
		if i == 0 || events[i-1].move != e.move {
			if !t.tell(event{kind: opens, move: e.move, thread: e.thread}) {
				return false
			}
		}
		if !t.tell(e) {
			return false
		}
		if i+1 == len(events) || events[i+1].move != e.move {
			if !t.tell(event{kind: closes, move: e.move, thread: e.thread}) {
				return false
			}
		}
	}
	return true
}

func (t table) tell(e event) bool {
	for _, look := range t[e.kind] {
		if !look(e) {
			return false
		}
	}
	return true
}

// moment is how many events of each kind a move has had.
type moment struct {
	counts [kinds]int
}

func (m *moment) start(event) bool {
	clear(m.counts[:])
	return true
}

func (m *moment) count(e event) bool {
	m.counts[e.kind]++
	return true
}
