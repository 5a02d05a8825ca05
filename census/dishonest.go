package census

import (
	"cmp"
	"slices"

	"reclaim/api"
)

// Dishonest are the numbers of the calls that answered that there is no slot, and there was one.
func Dishonest(c api.Config, used int, r api.Run) ([]int, api.Errno) {
	s, e := read(c, used, r)
	if e != api.OK {
		return nil, e
	}
	a := &asker{story: s, slots: slotsOf(c, used), claims: claimsOf(r.Calls)}
	table{
		opens:  {a.ask},
		shifts: {s.turning(a.slots)},
	}.watch(s.events)
	slices.Sort(a.lies)
	return a.lies, api.OK
}

// claim is a call's that there was no slot ahead of a move.
type claim struct {
	move   int
	number int // of the call
}

// claimsOf is the calls' claims, by rising moves.
func claimsOf(calls []api.Call) []claim {
	var out []claim
	for i, c := range calls {
		switch {
		case c.Answer.Kind != api.AnswerFull:
		case c.Op == api.OpTake:
			out = append(out, claim{c.End, i})
		case c.Point != never:
			out = append(out, claim{c.Point, i})
		}
	}
	slices.SortFunc(out, func(a, b claim) int { return cmp.Compare(a.move, b.move) })
	return out
}

// asker holds claims against the slots.
type asker struct {
	story
	slots  *slots
	claims []claim // those that have not been asked yet
	lies   []int
}

// ask asks the claims of the moves up to the one that comes. None is left at the end: a call that answered Full has
// ended, and not ahead of what it claims.
func (a *asker) ask(e event) bool {
	for len(a.claims) > 0 && a.claims[0].move <= e.move {
		number := a.claims[0].number
		a.claims = a.claims[1:]
		if a.slots.counts[api.StateFree] > 0 || a.slots.cached[a.run.Calls[number].Thread] > 0 {
			a.lies = append(a.lies, number)
		}
	}
	return true
}
