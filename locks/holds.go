package locks

import (
	"cmp"
	"math"
	"slices"
	"sort"

	"reclaim/api"
	"reclaim/word"
)

// Holds tells whether nobody was inside beside one who was alone, and the count is that of the touches.
func Holds(c api.Locks, r api.Run) (bool, api.Errno) {
	if e := Check(c); e != api.OK {
		return false, e
	}
	return apart(staysOf(r.Calls)) && counted(r), api.OK
}

// apart tells whether of each two stays, by their beginnings, that are not both shared one has ended ahead of
// the other's beginning. A raw run may have stays that end ahead of their own beginning: these are apart also
// from all that begin behind their end, so that each is held against those alone that don't.
func apart(stays []api.Stay) bool {
	all, alones := []reach{{}}, []reach{{}} // of the first so many stays, and of those of them that aren't shared
	for i, s := range stays {
		others := all
		if s.Shared {
			others = alones
		}
		end := endOf(s)
		near := sort.Search(i, func(j int) bool { return stays[j].From > end })
		if others[near].meets(s.From) {
			return false
		}
		all = append(all, all[i].with(end))
		if s.Shared {
			alones = append(alones, alones[i])
		} else {
			alones = append(alones, alones[i].with(end))
		}
	}
	return true
}

// endOf is the last move of a stay; one that lasts has none that is below any other's beginning.
func endOf(s api.Stay) int {
	if s.To == none {
		return math.MaxInt
	}
	return s.To
}

// reach is how far some stays go: up to the end of the one that ends last.
type reach struct {
	some bool
	end  int
}

func (r reach) with(end int) reach {
	if r.some {
		end = max(end, r.end)
	}
	return reach{some: true, end: end}
}

// meets tells whether one of the stays has not ended ahead of a move.
func (r reach) meets(move int) bool {
	return r.some && r.end >= move
}

// counted tells whether the touches that have ended, by their ends, answered 0, 1, 2 and so on, and the count
// is their number.
func counted(r api.Run) bool {
	var touches []api.Call
	for _, c := range r.Calls {
		if c.Op == api.OpTouch && c.End != none {
			touches = append(touches, c)
		}
	}
	slices.SortStableFunc(touches, func(a, b api.Call) int { return cmp.Compare(a.End, b.End) })
	for i, c := range touches {
		if c.Answer != (api.Answer{Kind: api.AnswerValue, Value: i}) {
			return false
		}
	}
	return len(r.Words) > 0 && r.Words[countAddr] == word.Number(len(touches))
}
