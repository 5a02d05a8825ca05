package witness

import (
	"slices"

	"reclaim/api"
)

// May tells whether some run could have made these calls, as far as their times and kinds of answers go.
func May(calls []api.Call) bool {
	for i, c := range calls {
		if !mayAlone(c) || i > 0 && c.Begin <= calls[i-1].Begin {
			return false
		}
	}
	return apart(calls) && inTurn(calls)
}

// mayAlone tells whether a call may be, whatever others there are.
func mayAlone(c api.Call) bool {
	return c.Thread >= 0 && c.Thread < api.MaxThreads && timely(c) && answered(c)
}

func timely(c api.Call) bool {
	if c.Begin < 0 || ended(c) && c.End <= c.Begin {
		return false
	}
	if c.Point == never {
		return true
	}
	return c.Point > c.Begin && (!ended(c) || c.Point <= c.End)
}

func answered(c api.Call) bool {
	kind := c.Answer.Kind
	if kind < api.AnswerNone || kind > api.AnswerNo {
		return false
	}
	if ended(c) == (kind == api.AnswerNone) {
		return false
	}
	return kind == api.AnswerValue || c.Answer.Value == 0
}

// apart tells whether no two calls share a move. A call's own Point may be its End, so that one is told once.
func apart(calls []api.Call) bool {
	var moves []int
	for _, c := range calls {
		moves = append(moves, c.Begin)
		if ended(c) {
			moves = append(moves, c.End)
		}
		if c.Point != never && c.Point != c.End {
			moves = append(moves, c.Point)
		}
	}
	slices.Sort(moves)
	for i := 1; i < len(moves); i++ {
		if moves[i] == moves[i-1] {
			return false
		}
	}
	return true
}

// inTurn tells whether each thread had ended its call when it began the next one. As the calls are told by rising
// Begin, it is enough to hold each against its thread's last one.
func inTurn(calls []api.Call) bool {
	var made [api.MaxThreads]int // the number of each thread's last call, more one
	for i, c := range calls {
		if last := made[c.Thread]; last > 0 && !ahead(calls[last-1], c) {
			return false
		}
		made[c.Thread] = i + 1
	}
	return true
}
