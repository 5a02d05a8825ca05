package census_test

import (
	"cmp"
	"slices"
	"testing"

	"reclaim/api"
	"reclaim/census"
	"reclaim/word"
)

// The chapter's words once more, as they stand there: everything is asked anew, of the whole run.

func plainMay(c api.Config, used int, r api.Run) bool {
	if word.Check(c) != api.OK || used < 0 || used > c.Slots {
		return false
	}
	return plainCalls(c, r) && plainTrace(c, used, r) && plainShifts(c, used, r) && plainOfOne(r)
}

func plainCalls(c api.Config, r api.Run) bool {
	for i, x := range r.Calls {
		ended := x.End != -1
		may := x.Thread >= 0 && x.Thread < c.Threads && x.Begin >= 0 && (!ended || x.End > x.Begin) &&
			(x.Point == -1 || x.Point > x.Begin && (!ended || x.Point <= x.End)) &&
			x.Answer.Kind >= 0 && x.Answer.Kind <= 6 && ended == (x.Answer.Kind != 0) && (x.Answer.Kind == 2 || x.Answer.Value == 0)
		if !may || i > 0 && x.Begin <= r.Calls[i-1].Begin {
			return false
		}
		for k, y := range r.Calls {
			if k != i && (ended && x.End == y.End || x.Begin == y.End) {
				return false
			}
			if k < i && y.Thread == x.Thread && (y.End == -1 || y.End >= x.Begin) {
				return false
			}
		}
	}
	return true
}

// plainIn tells whether a thread is in a call at a move.
func plainIn(r api.Run, thread, move int) bool {
	return slices.ContainsFunc(r.Calls, func(c api.Call) bool { return c.Thread == thread && plainOfCall(c, move) })
}

func plainOfCall(c api.Call, move int) bool { return move > c.Begin && (c.End == -1 || move <= c.End) }

// plainTime tells whether a thread may do something in a move.
func plainTime(r api.Run, thread, move int) bool {
	return plainIn(r, thread, move) && !slices.ContainsFunc(r.Calls, func(c api.Call) bool { return c.Begin == move })
}

func plainTrace(c api.Config, used int, r api.Run) bool {
	words, _ := word.First(c, used)
	for i, a := range r.Trace {
		if i > 0 && a.Move <= r.Trace[i-1].Move || !plainTime(r, a.Thread, a.Move) || a.Addr < 0 || a.Addr >= len(words) {
			return false
		}
		may := a.Kind == api.AccessLoad && a == (api.Access{Move: a.Move, Thread: a.Thread, Kind: a.Kind, Addr: a.Addr, Saw: words[a.Addr]}) ||
			a.Kind == api.AccessStore && a == (api.Access{Move: a.Move, Thread: a.Thread, Kind: a.Kind, Addr: a.Addr, New: a.New}) ||
			a.Kind == api.AccessSwap && a.Saw == words[a.Addr]
		if !may {
			return false
		}
		if plainWrites(a) {
			words[a.Addr] = a.New
		}
	}
	return slices.Equal(words, r.Words)
}

func plainWrites(a api.Access) bool {
	return a.Kind == api.AccessStore || a.Kind == api.AccessSwap && a.Saw == a.Old
}

func plainShifts(c api.Config, used int, r api.Run) bool {
	for i, s := range r.Shifts {
		if i > 0 && s.Move < r.Shifts[i-1].Move || !plainTime(r, s.Thread, s.Move) || s.Slot < 0 || s.Slot >= c.Slots {
			return false
		}
		if states, _ := plainSlots(c, used, r.Shifts[:i]); s.To < 0 || s.To > 5 || s.From != states[s.Slot] {
			return false
		}
	}
	return true
}

// plainDoing is who does something in a move.
type plainDoing struct{ move, thread int }

func plainDoings(r api.Run) []plainDoing {
	var out []plainDoing
	for _, c := range r.Calls {
		if c.End != -1 {
			out = append(out, plainDoing{c.End, c.Thread})
		}
	}
	for _, a := range r.Trace {
		out = append(out, plainDoing{a.Move, a.Thread})
	}
	for _, s := range r.Shifts {
		out = append(out, plainDoing{s.Move, s.Thread})
	}
	return out
}

func plainOfOne(r api.Run) bool {
	all := plainDoings(r)
	for _, x := range all {
		for _, y := range all {
			if x.move == y.move && x.thread != y.thread {
				return false
			}
		}
	}
	return true
}

// plainSlots is the states and holders behind shifts.
func plainSlots(c api.Config, used int, l []api.Shift) ([]api.State, []int) {
	states, holders := make([]api.State, c.Slots), slices.Repeat([]int{-1}, c.Slots)
	for i := range used {
		states[i] = api.StateLinked
	}
	for _, s := range l {
		states[s.Slot], holders[s.Slot] = s.To, s.Thread
		if s.To == api.StateFree || s.To == api.StateLinked {
			holders[s.Slot] = -1
		}
	}
	return states, holders
}

// plainAhead is the shifts of the moves below one.
func plainAhead(r api.Run, move int) []api.Shift {
	return slices.DeleteFunc(slices.Clone(r.Shifts), func(s api.Shift) bool { return s.Move >= move })
}

// plainBehind is those of the move too.
func plainBehind(r api.Run, move int) []api.Shift {
	return slices.DeleteFunc(slices.Clone(r.Shifts), func(s api.Shift) bool { return s.Move > move })
}

// plainMoves are the moves in which something was done.
func plainMoves(r api.Run) []int {
	var out []int
	for _, x := range plainDoings(r) {
		out = append(out, x.move)
	}
	slices.Sort(out)
	return slices.Compact(out)
}

func plainFaults(c api.Config, used int, r api.Run) []api.Fault {
	var out []api.Fault
	for _, move := range plainMoves(r) {
		for _, a := range r.Trace {
			if a.Move == move {
				out = append(out, plainAccessFault(c, used, r, a)...)
			}
		}
		for k, s := range r.Shifts {
			if s.Move == move {
				out = append(out, plainShiftFaults(c, used, r, k, s)...)
			}
		}
	}
	return out
}

func plainAccessFault(c api.Config, used int, r api.Run, a api.Access) []api.Fault {
	place, _ := word.At(c, a.Addr)
	if place.Region < api.RegionValue {
		return nil
	}
	ahead, _ := plainSlots(c, used, plainAhead(r, a.Move))
	for _, l := range [][]api.Shift{plainAhead(r, a.Move), plainBehind(r, a.Move)} {
		states, holders := plainSlots(c, used, l)
		if s := states[place.I]; s >= api.StateLinked || s == api.StateOwned && holders[place.I] == a.Thread {
			return nil
		}
	}
	if ahead[place.I] == api.StateOwned {
		return []api.Fault{{Kind: api.FaultForeign, Move: a.Move, Slot: place.I}}
	}
	return []api.Fault{{Kind: api.FaultFree, Move: a.Move, Slot: place.I}}
}

func plainShiftFaults(c api.Config, used int, r api.Run, k int, s api.Shift) []api.Fault {
	var out []api.Fault
	_, holders := plainSlots(c, used, r.Shifts[:k])
	own := holders[s.Slot] == s.Thread
	may := map[[2]api.State]bool{
		{free, owned}: true, {cached, owned}: own, {cached, free}: own, {owned, linked}: own, {owned, cached}: own, {owned, free}: own,
		{linked, detached}: true, {detached, retired}: own, {retired, cached}: true, {retired, free}: true,
	}
	if !may[[2]api.State{s.From, s.To}] {
		out = append(out, api.Fault{Kind: api.FaultShift, Move: s.Move, Slot: s.Slot})
	}
	if s.From == retired && (s.To == cached || s.To == free) && plainHeld(c, used, r, k) {
		out = append(out, api.Fault{Kind: api.FaultHazard, Move: s.Move, Slot: s.Slot})
	}
	return out
}

// plainHeld tells whether a hazard holds the slot of a shift at its time.
func plainHeld(c api.Config, used int, r api.Run, k int) bool {
	for record := range c.Records {
		for hazard := range c.Hazards {
			w, since := uint64(0), -1
			for _, a := range r.Trace {
				if a.Addr == addrOf(c, api.RegionHazard, record, hazard) && a.Move <= r.Shifts[k].Move && plainWrites(a) {
					w, since = a.New, a.Move
				}
			}
			if w != link(r.Shifts[k].Slot) {
				continue
			}
			for n := len(plainAhead(r, since)); n <= k; n++ {
				if states, _ := plainSlots(c, used, r.Shifts[:n]); states[r.Shifts[k].Slot] == api.StateLinked {
					return true
				}
			}
		}
	}
	return false
}

// plainSteps are the moves that are steps, each with its thread.
func plainSteps(r api.Run) []plainDoing {
	out := slices.DeleteFunc(plainDoings(r), func(x plainDoing) bool {
		return !slices.ContainsFunc(r.Trace, func(a api.Access) bool { return a.Move == x.move }) &&
			!slices.ContainsFunc(r.Calls, func(c api.Call) bool { return c.End == x.move })
	})
	slices.SortFunc(out, func(a, b plainDoing) int { return cmp.Compare(a.move, b.move) })
	return slices.Compact(out)
}

func plainPeaks(c api.Config, used int, r api.Run) api.Peaks {
	var most [6]int
	for n := range len(r.Shifts) + 1 {
		states, _ := plainSlots(c, used, r.Shifts[:n])
		var count [6]int
		for _, s := range states {
			count[s]++
		}
		for s := range most {
			most[s] = max(most[s], count[s])
		}
	}
	p := api.Peaks{Cached: most[cached], Owned: most[owned], Linked: most[linked], Detached: most[detached], Retired: most[retired]}
	steps, gap := plainSteps(r), 0
	for _, x := range steps {
		gap++
		if slices.ContainsFunc(r.Calls, func(c api.Call) bool { return c.End == x.move }) {
			gap = 0
		}
		p.Gap = max(p.Gap, gap)
	}
	for _, call := range r.Calls {
		count := 0
		for _, x := range steps {
			if x.thread == call.Thread && plainOfCall(call, x.move) {
				count++
			}
		}
		p.Steps = max(p.Steps, count)
	}
	return p
}

func plainDishonest(c api.Config, used int, r api.Run) []int {
	var out []int
	for i, x := range r.Calls {
		move := x.Point
		if x.Op == api.OpTake {
			move = x.End
		}
		if x.Answer.Kind != api.AnswerFull || move == -1 {
			continue
		}
		states, holders := plainSlots(c, used, plainAhead(r, move))
		for slot, s := range states {
			if s == free || s == cached && holders[slot] == x.Thread {
				out = append(out, i)
				break
			}
		}
	}
	return out
}

// wantPlain asks all that may be asked of a run, at these moves, and holds it against the plain words; it tells
// whether the run goes together.
func (x *tale) wantPlain(t *testing.T, moves ...int) bool {
	t.Helper()
	if !plainMay(x.c, x.used, x.r) {
		x.wantRefused(t, "a run that doesn't go together")
		return false
	}
	x.wantMay(t, "a run that goes together", true)
	x.wantFaults(t, "all", plainFaults(x.c, x.used, x.r)...)
	x.wantPeaks(t, "all", plainPeaks(x.c, x.used, x.r))
	x.wantDishonest(t, "all", plainDishonest(x.c, x.used, x.r)...)
	for _, n := range moves {
		if n >= 0 {
			states, holders := plainSlots(x.c, x.used, plainAhead(x.r, n))
			x.wantStates(t, n, states, holders)
		} else if _, _, e := census.States(x.c, x.used, x.r, n); e != api.ErrRange {
			t.Errorf("States(%d) = %d", n, e)
		}
	}
	return true
}
