package locks_test

import (
	"cmp"
	"slices"
	"testing"

	"reclaim/api"
	"reclaim/locks"
)

// judge is P24.4 by its words, in the simplest way.
func judge(r api.Run) bool {
	stays := plainStays(r)
	ahead := func(a, b api.Stay) bool { return a.To != -1 && a.To < b.From }
	for i, a := range stays {
		for _, b := range stays[i+1:] {
			if !(a.Shared && b.Shared) && !ahead(a, b) && !ahead(b, a) {
				return false
			}
		}
	}
	var touches []api.Call
	for _, c := range r.Calls {
		if c.Op == api.OpTouch && c.End != -1 {
			touches = append(touches, c)
		}
	}
	slices.SortStableFunc(touches, func(a, b api.Call) int { return cmp.Compare(a.End, b.End) })
	for i, c := range touches {
		if c.Answer != value(i) {
			return false
		}
	}
	return len(r.Words) > 0 && r.Words[0] == uint64(len(touches))
}

func wantJudged(t *testing.T, c api.Locks, r api.Run) bool {
	t.Helper()
	so := judge(r)
	if got, e := locks.Holds(c, r); got != so || e != api.OK {
		t.Fatalf("Holds = %v, %d, not %v: %+v", got, e, so, r)
	}
	return so
}

// wantHoldsOf asks of calls, none of which is a touch, in all kinds.
func wantHoldsOf(t *testing.T, so bool, calls ...api.Call) {
	t.Helper()
	wantHoldsIn(t, so, api.Run{Calls: calls, Words: []uint64{0}})
}

func wantHoldsIn(t *testing.T, so bool, r api.Run) {
	t.Helper()
	if judge(r) != so {
		t.Fatalf("%+v: judged otherwise than %v", r, so)
	}
	for _, kind := range kinds() {
		if got, e := locks.Holds(locksOf(1, kind), r); got != so || e != api.OK {
			t.Errorf("Holds(%+v) = %v, %d, not %v", r, got, e, so)
		}
	}
}

// P24.4: of two stays one has ended ahead of the other's beginning.
func TestHoldsTwoStays(t *testing.T) {
	wantHoldsOf(t, true)
	wantHoldsOf(t, true, in(0, 3))
	wantHoldsOf(t, true, in(0, 3), out(0, 7))
	for from := -4; from < 15; from++ {
		if from == none {
			continue
		}
		for to := from; to < from+6; to++ {
			apart := to < 3 && to != none || from > 7
			wantHoldsOf(t, apart, in(0, 3), out(0, 7), in(1, from), out(1, to))
			wantHoldsOf(t, apart, in(1, from), in(0, 3), out(1, to), out(0, 7))
			wantHoldsOf(t, apart, in(0, 3), out(0, 7), shareIn(1, from), shareOut(1, to))
			wantHoldsOf(t, apart, shareIn(1, from), shareOut(1, to), in(0, 3), out(0, 7))
			wantHoldsOf(t, apart, shareIn(0, 3), shareOut(0, 7), in(1, from), out(1, to))
			wantHoldsOf(t, true, shareIn(0, 3), shareOut(0, 7), shareIn(1, from), shareOut(1, to))
		}
		wantHoldsOf(t, from > 7, in(0, 3), out(0, 7), in(1, from))
		wantHoldsOf(t, from > 7, in(0, 3), out(0, 7), shareIn(1, from))
		wantHoldsOf(t, from > 7, shareIn(0, 3), shareOut(0, 7), in(1, from))
		wantHoldsOf(t, true, shareIn(0, 3), shareOut(0, 7), shareIn(1, from))
		wantHoldsOf(t, false, in(0, 3), in(1, from))
		wantHoldsOf(t, false, shareIn(0, 3), in(1, from))
		wantHoldsOf(t, true, shareIn(0, 3), shareIn(1, from))
	}
}

// P24.4: stays that meet at one move are not apart; nor are two that begin at one move, however soon they end.
func TestHoldsAtOneMove(t *testing.T) {
	wantHoldsOf(t, false, in(0, 3), out(0, 7), in(1, 7))
	wantHoldsOf(t, true, in(0, 3), out(0, 7), in(1, 8))
	wantHoldsOf(t, false, in(0, 3), out(0, 3), in(1, 3), out(1, 3))
	wantHoldsOf(t, true, in(0, 3), out(0, 3), in(1, 4), out(1, 4))
	wantHoldsOf(t, false, shareIn(0, 3), shareOut(0, 7), in(1, 7))
	wantHoldsOf(t, false, in(0, 3), out(0, 7), shareIn(1, 7))
}

// P24.4: a release that is missing, of another thread, of the other kind, or ahead in the list.
func TestHoldsReleases(t *testing.T) {
	wantHoldsOf(t, true, in(0, 3), out(0, 5), in(1, 7), out(1, 9), in(2, 11))
	wantHoldsOf(t, false, in(0, 3), in(1, 7), out(1, 9), in(2, 11))
	wantHoldsOf(t, false, in(0, 3), out(2, 5), in(1, 7), out(1, 9))
	wantHoldsOf(t, false, in(0, 3), shareOut(0, 5), in(1, 7), out(1, 9))
	wantHoldsOf(t, false, out(0, 5), in(0, 3), in(1, 7), out(1, 9))
	wantHoldsOf(t, true, in(1, 7), in(0, 3), out(0, 5))
	wantHoldsOf(t, true, in(0, 3), callOf(api.OpRelease, 0, 5, none), in(1, 7))
	wantHoldsOf(t, true, callOf(api.OpAcquire, 0, 3, none), in(1, 7))
	wantHoldsOf(t, false, in(0, 3), in(0, 4), out(0, 5)) // one release of two stays
	wantHoldsOf(t, true, in(0, 3), out(0, 5), in(0, 6), out(0, 8))
	wantHoldsOf(t, false, in(0, 3), out(0, -1), in(1, 7))
	wantHoldsOf(t, true, in(0, 3), out(0, -2), in(1, 7))
}

// P24.4: of many stays each two are asked, also two that are far from one another in the list.
func TestHoldsManyStays(t *testing.T) {
	var calls []api.Call
	for i := range 40 {
		calls = append(calls, in(i, 10*i), out(i, 10*i+5))
	}
	wantHoldsOf(t, true, calls...)
	for i := range 40 {
		for _, to := range []int{10*i + 9, 10*i + 10, 10*i + 200, 1000, none} {
			same := slices.Clone(calls)
			same[2*i+1].Begin = to
			wantHoldsOf(t, i == 39 || to == 10*i+9, same...)
		}
		without := slices.Delete(slices.Clone(calls), 2*i+1, 2*i+2)
		wantHoldsOf(t, i == 39, without...)
	}
	slices.Reverse(calls) // each release comes ahead of its acquire now
	wantHoldsOf(t, false, calls...)
	wantHoldsOf(t, true, calls[0], calls[1])
}

// P24.4: shared stays beside each other, and beside one that is alone, ahead of them, among them and behind.
func TestHoldsSharedStays(t *testing.T) {
	readers := callsOf(
		shareIn(0, 10), shareIn(1, 12), shareOut(1, 14), shareIn(2, 16), shareIn(1, 18), shareOut(0, 30), shareOut(2, 31), shareOut(1, 32))
	wantHoldsOf(t, true, readers...)
	for from := range 40 {
		for _, to := range []int{from, from + 1, from + 5} {
			if to != none {
				wantHoldsOf(t, to < 10 || from > 32, append(slices.Clone(readers), in(9, from), out(9, to))...)
			}
		}
		wantHoldsOf(t, from > 32, append(slices.Clone(readers), in(9, from))...)
	}
	// Two of them that are apart, with one alone between.
	wantHoldsOf(t, true, shareIn(0, 1), shareIn(1, 2), shareOut(0, 3), shareOut(1, 4), in(2, 5), out(2, 6), shareIn(0, 7), shareIn(1, 8))
	wantHoldsOf(t, false, shareIn(0, 1), shareIn(1, 2), shareOut(0, 3), in(2, 5), out(2, 6), shareIn(0, 7))
	wantHoldsOf(t, false, shareIn(0, 1), shareIn(1, 2), shareOut(1, 3), in(2, 5), out(2, 6), shareIn(1, 7))
}

// P24.4: stays that end ahead of their own beginning, and numbers at the ends of what an int may be.
func TestHoldsOddStays(t *testing.T) {
	wantHoldsOf(t, true, in(0, 10), out(0, 3), in(1, 5), out(1, 7))
	wantHoldsOf(t, true, in(0, 10), out(0, 3), in(1, 5), out(1, 9))
	wantHoldsOf(t, true, in(0, 10), out(0, 3), in(1, 4), out(1, 15))
	wantHoldsOf(t, false, in(0, 10), out(0, 3), in(1, 3), out(1, 15))
	wantHoldsOf(t, false, in(0, 10), out(0, 3), in(1, 3), out(1, 10))
	wantHoldsOf(t, true, in(0, 10), out(0, 3), in(1, 3), out(1, 9))
	wantHoldsOf(t, false, in(0, 10), out(0, 3), in(1, 2))
	wantHoldsOf(t, true, in(0, 10), out(0, 3), in(1, 20), out(1, 1))
	wantHoldsOf(t, false, in(0, 10), out(0, 3), shareIn(1, 3), shareOut(1, 15))
	wantHoldsOf(t, true, shareIn(0, 10), shareOut(0, 3), shareIn(1, 3), shareOut(1, 15))
	wantHoldsOf(t, false, shareIn(0, 10), shareOut(0, 3), in(1, 3), out(1, 15))
	wantHoldsOf(t, true, in(1, 3), out(1, 5), in(0, 10), out(0, 3), shareIn(2, 7), shareOut(2, 8))
	least, most := -1<<63, 1<<63-1
	ends := []int{least, least + 1, -2, -1, 0, 1, most - 1, most}
	for _, a := range ends {
		for _, b := range ends {
			for _, from := range ends {
				for _, to := range ends {
					calls := []api.Call{{Op: api.OpAcquire, End: a}, {Op: api.OpRelease, Begin: b}, {Thread: 1, Op: api.OpShare, End: from}, {Thread: 1, Op: api.OpUnshare, Begin: to}}
					wantJudged(t, locksOf(1, 1), api.Run{Calls: calls, Words: []uint64{0}})
					calls[2].Op, calls[3].Op = api.OpAcquire, api.OpRelease
					wantJudged(t, locksOf(1, 1), api.Run{Calls: calls, Words: []uint64{0}})
				}
			}
		}
	}
}

func touched(end, v int) api.Call {
	c := callOf(api.OpTouch, 0, end-2, end)
	c.Point, c.Answer = none, value(v)
	return c
}

// P24.4: the touches that have ended answered 0, 1, 2 and so on, by their ends, and the first word is their number.
func TestHoldsTouches(t *testing.T) {
	three := callsOf(touched(3, 0), touched(5, 1), touched(9, 2))
	for count := range 4 {
		for word := range uint64(6) {
			wantHoldsIn(t, uint64(count) == word, api.Run{Calls: three[:count], Words: []uint64{word, 9}})
		}
	}
	words := []uint64{3}
	wantHoldsIn(t, true, api.Run{Calls: callsOf(touched(9, 2), touched(3, 0), touched(5, 1)), Words: words})
	wantHoldsIn(t, false, api.Run{Calls: callsOf(touched(3, 0), touched(9, 1), touched(5, 2)), Words: words})
	wantHoldsIn(t, true, api.Run{Calls: callsOf(touched(5, 0), touched(5, 1), touched(5, 2)), Words: words})
	wantHoldsIn(t, false, api.Run{Calls: callsOf(touched(5, 0), touched(5, 2), touched(5, 1)), Words: words})
	wantHoldsIn(t, false, api.Run{Calls: callsOf(touched(5, 1), touched(5, 0), touched(5, 2)), Words: words})
	for i := range three {
		for _, v := range []int{-1, 0, 1, 2, 3, -1 << 63} {
			same := slices.Clone(three)
			same[i].Answer.Value = v
			wantHoldsIn(t, v == i, api.Run{Calls: same, Words: words})
		}
		for kind := api.AnswerKind(-1); kind < 9; kind++ {
			same := slices.Clone(three)
			same[i].Answer.Kind = kind
			wantHoldsIn(t, kind == api.AnswerValue, api.Run{Calls: same, Words: words})
		}
		same := slices.Clone(three)
		same[i].End = none
		wantHoldsIn(t, false, api.Run{Calls: same, Words: words})
		wantHoldsIn(t, i == 2, api.Run{Calls: same, Words: []uint64{2}})
	}
	wantHoldsIn(t, true, api.Run{Calls: append(three, callOf(api.OpTouch, 1, 8, none)), Words: words})
	early := touched(3, 1)
	early.End = -2
	wantHoldsIn(t, false, api.Run{Calls: callsOf(touched(3, 0), early), Words: []uint64{2}})
	early.Answer.Value = 0
	wantHoldsIn(t, true, api.Run{Calls: callsOf(touched(3, 1), early), Words: []uint64{2}})
	many := make([]api.Call, 200)
	for i := range many {
		many[i] = touched(7, i) // all with one end: as in the list
	}
	wantHoldsIn(t, true, api.Run{Calls: many, Words: []uint64{200}})
}

// P24.4: r has a word, and the first one is the number of the touches, as a whole.
func TestHoldsWords(t *testing.T) {
	wantHoldsIn(t, false, api.Run{})
	wantHoldsIn(t, false, api.Run{Words: []uint64{}})
	wantHoldsIn(t, false, api.Run{Calls: callsOf(touched(3, 0))})
	wantHoldsIn(t, false, api.Run{Calls: callsOf(in(0, 3), out(0, 5))})
	for _, w := range []uint64{0, 1, 2, 1 << 32, 1<<32 + 1, 1 << 63, 1<<64 - 1} {
		wantHoldsIn(t, w == 0, api.Run{Words: []uint64{w}})
		wantHoldsIn(t, w == 1, api.Run{Calls: callsOf(touched(3, 0)), Words: []uint64{w}})
		wantHoldsIn(t, true, api.Run{Words: []uint64{0, w, w}})
	}
}

// P24.4: whether touches lie in stays, and what else the run has, is not asked.
func TestHoldsLooksAtNothingElse(t *testing.T) {
	for _, so := range []bool{true, false} {
		r := api.Run{Calls: callsOf(in(0, 3), out(0, 7), touched(30, 0)), Words: []uint64{1, 88, 7}}
		if !so {
			r.Calls = append(r.Calls, in(1, 5))
		}
		for i := range r.Calls {
			r.Calls[i].Arg, r.Calls[i].Data, r.Calls[i].Point = i, -i, 99
		}
		for op := api.Op(-2); op < 300; op++ {
			if op < api.OpAcquire || op > api.OpTouch {
				r.Calls = append(r.Calls, callOf(op, 2, 4, 5))
			}
		}
		r.Calls[0].Answer = value(8)
		r.Trace = append(r.Trace, api.Access{Move: -3, Thread: 99, Kind: 7, Addr: -1}, store(0, 0, 99))
		r.Shifts = []api.Shift{{Slot: 88, From: 3, To: 9}}
		wantHoldsIn(t, so, r)
	}
}

// P24.4: true runs, and ones with a single thing wrong, are judged as the words say.
func TestHoldsOfSpoiltRuns(t *testing.T) {
	d := dice(31)
	met := map[bool]int{}
	eachChance(150, func(c api.Locks, moves []api.Move) {
		r := playOf(t, c, moves...)
		if !wantJudged(t, c, r) {
			t.Fatalf("a run of a script doesn't hold: %+v", r)
		}
		for range 40 {
			same := cloneRun(r)
			spoil(&d, &same)
			met[wantJudged(t, c, same)]++
			if got, e := locks.Stays(c, same); !slices.Equal(got, plainStays(same)) || e != api.OK {
				t.Fatalf("Stays = %+v, %d, not %+v", got, e, plainStays(same))
			}
		}
	})
	if met[true] < 500 || met[false] < 500 {
		t.Errorf("%v", met)
	}
}

// spoil changes a single thing.
func spoil(d *dice, r *api.Run) {
	if len(r.Calls) == 0 || d.below(12) == 0 {
		r.Words[0] += uint64(d.below(3)) - 1
		return
	}
	i := d.below(len(r.Calls))
	c := &r.Calls[i]
	switch d.below(9) {
	case 0:
		c.Thread = d.below(3)
	case 1:
		c.Op = api.OpAcquire + api.Op(d.below(5))
	case 2:
		c.End = none
	case 3:
		c.End += d.below(9) - 4
	case 4:
		c.Begin += d.below(9) - 4
	case 5:
		c.Answer.Value += d.below(3) - 1
	case 6:
		c.Answer.Kind = api.AnswerKind(d.below(7))
	case 7:
		r.Calls = slices.Delete(r.Calls, i, i+1)
	case 8:
		j := d.below(len(r.Calls))
		r.Calls[i], r.Calls[j] = r.Calls[j], r.Calls[i]
	}
}

// Runs of very many calls are answered in time, whatever the order of their stays.
func TestHoldsOfVeryManyCalls(t *testing.T) {
	var calls []api.Call
	for i := range 150000 {
		calls = append(calls, in(i%7, 10*i), out(i%7, 10*i+5))
	}
	c := locksOf(7, api.LockFlag)
	for _, so := range []bool{true, false} {
		if got, e := locks.Holds(c, api.Run{Calls: calls, Words: []uint64{0}}); got != so || e != api.OK {
			t.Errorf("Holds = %v, %d", got, e)
		}
		slices.Reverse(calls)
	}
	for i := range calls {
		calls[i] = shareIn(i, 1000000-i)
	}
	if got, e := locks.Holds(c, api.Run{Calls: calls, Words: []uint64{0}}); !got || e != api.OK {
		t.Errorf("Holds = %v, %d", got, e)
	}
	calls[1000] = in(1000, 1000000-1000)
	if got, e := locks.Holds(c, api.Run{Calls: calls, Words: []uint64{0}}); got || e != api.OK {
		t.Errorf("Holds = %v, %d", got, e)
	}
}
