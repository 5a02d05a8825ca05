package ring

import (
	"slices"

	"reclaim/api"
)

// Holds tells whether each pick got what the put of its number put, and every Full and Empty was right.
func Holds(c api.Ring, r api.Run) (bool, api.Errno) {
	if e := Check(c); e != api.OK {
		return false, e
	}
	puts, picks := sideOf(passedPuts(r)), sideOf(passedPicks(r))
	if !puts.counted() || !picks.counted() || !picks.got(puts) {
		return false, api.OK
	}
	wrong := func(call api.Call) bool {
		return call.Op == api.OpPick && call.Answer.Kind == api.AnswerEmpty && !rightlyEmpty(puts, picks, call.Point) ||
			call.Op == api.OpPut && call.Answer.Kind == api.AnswerFull && !rightlyFull(c, puts, picks, call.Point)
	}
	return !slices.ContainsFunc(r.Calls, wrong), api.OK
}

// side is what the calls of one op did.
type side struct {
	tickets []passed // by their numbers
	taken   []int    // the moves in which they were got, rising
}

func sideOf(tickets []passed) side {
	taken := make([]int, len(tickets))
	for i, p := range tickets {
		taken[i] = p.taken
	}
	slices.Sort(taken)
	return side{tickets: tickets, taken: taken}
}

// counted tells whether the tickets are 0, 1, 2 and so on.
func (s side) counted() bool {
	for i, p := range s.tickets {
		if p.Number != i {
			return false
		}
	}
	return true
}

// got tells whether there is a put for each of the picks, and those that have ended answer its value.
func (s side) got(puts side) bool {
	if len(s.tickets) > len(puts.tickets) {
		return false
	}
	for i, p := range s.tickets {
		if p.end != none && p.Value != puts.tickets[i].Value {
			return false
		}
	}
	return true
}

// ahead is how many of the tickets were got ahead of a move.
func (s side) ahead(move int) int {
	count, _ := slices.BinarySearch(s.taken, move)
	return count
}

// through tells whether the call with a ticket is there and has ended by a move. (Where the tickets are
// counted each stands at its number.)
func (s side) through(ticket, move int) bool {
	if ticket >= len(s.tickets) {
		return false
	}
	end := s.tickets[ticket].end
	return end != none && end <= move
}

// rightlyEmpty tells whether the put that a pick waits for at a move is still not through.
func rightlyEmpty(puts, picks side, move int) bool {
	return !puts.through(picks.ahead(move), move)
}

// rightlyFull tells whether a put that is made at a move must wait for a pick that is still not through.
func rightlyFull(c api.Ring, puts, picks side, move int) bool {
	ticket := puts.ahead(move) - c.Cells
	return ticket >= 0 && !picks.through(ticket, move)
}
