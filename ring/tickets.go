package ring

import (
	"cmp"
	"slices"

	"reclaim/api"
	"reclaim/word"
)

// Tickets are the puts and the picks that got one, by their numbers.
func Tickets(c api.Ring, r api.Run) ([]api.Ticket, []api.Ticket, api.Errno) {
	if e := Check(c); e != api.OK {
		return nil, nil, e
	}
	return ticketsOf(passedPuts(r)), ticketsOf(passedPicks(r)), api.OK
}

// passed is a ticket that was got, with what else a run tells of that.
type passed struct {
	api.Ticket
	taken int // the move of the swap
	end   int // of the call
}

func passedPuts(r api.Run) []passed {
	return passedOf(r, api.OpPut, putsAddr, func(c api.Call) int { return c.Arg })
}

func passedPicks(r api.Run) []passed {
	return passedOf(r, api.OpPick, picksAddr, func(c api.Call) int { return c.Answer.Value })
}

// passedOf are the tickets of an op's calls, by their numbers, of like ones by the calls' numbers.
func passedOf(r api.Run, op api.Op, counter int, value func(c api.Call) int) []passed {
	var list []passed
	all := swapsOf(r.Trace, counter)
	for number, c := range r.Calls {
		if c.Op != op {
			continue
		}
		if at := all.first(c); at != none {
			a := r.Trace[at]
			t := api.Ticket{Call: number, Number: word.Value(a.Old), Value: value(c)}
			list = append(list, passed{Ticket: t, taken: a.Move, end: c.End})
		}
	}
	slices.SortFunc(list, func(a, b passed) int {
		return cmp.Or(cmp.Compare(a.Number, b.Number), cmp.Compare(a.Call, b.Call))
	})
	return list
}

func ticketsOf(list []passed) []api.Ticket {
	tickets := make([]api.Ticket, len(list))
	for i, p := range list {
		tickets[i] = p.Ticket
	}
	return tickets
}
