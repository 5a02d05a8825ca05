package census_test

import (
	"slices"
	"testing"

	"reclaim/api"
	"reclaim/census"
)

// within is a list in the midst of a greater one, with edges around it.
func within[T any](values []T, edge T) []T {
	return append(append([]T{edge}, values...), edge, edge, edge, edge)
}

// inner is the list within, with all behind it as its spare room.
func inner[T any](around []T) []T { return around[1 : len(around)-4] }

// fill writes one thing into all of a list, its spare room too.
func fill[T any](values []T, with T) {
	for i := range values[:cap(values)] {
		values[:cap(values)][i] = with
	}
}

// around is a run each of whose lists stands within a greater one.
func around(r api.Run) api.Run {
	return api.Run{Calls: within(r.Calls, open(7, api.OpPop, 77)), Trace: within(r.Trace, api.Access{Move: 77}),
		Shifts: within(r.Shifts, api.Shift{Move: 77}), Words: within(r.Words, 77)}
}

func innerRun(r api.Run) api.Run {
	return api.Run{Calls: inner(r.Calls), Trace: inner(r.Trace), Shifts: inner(r.Shifts), Words: inner(r.Words)}
}

func cloneRun(r api.Run) api.Run {
	return api.Run{Calls: slices.Clone(r.Calls), Trace: slices.Clone(r.Trace), Shifts: slices.Clone(r.Shifts), Words: slices.Clone(r.Words)}
}

func sameRun(a, b api.Run) bool {
	return slices.Equal(a.Calls, b.Calls) && slices.Equal(a.Trace, b.Trace) && slices.Equal(a.Shifts, b.Shifts) && slices.Equal(a.Words, b.Words)
}

// told is all that is answered of a run.
type told struct {
	may       bool
	states    []api.State
	holders   []int
	faults    []api.Fault
	peaks     api.Peaks
	dishonest []int
}

func tell(c api.Config, used int, r api.Run, moves int) told {
	var x told
	x.may = census.May(c, used, r)
	x.states, x.holders, _ = census.States(c, used, r, moves)
	x.faults, _ = census.Faults(c, used, r)
	x.peaks, _ = census.Peaks(c, used, r)
	x.dishonest, _ = census.Dishonest(c, used, r)
	return x
}

func (x told) same(y told) bool {
	return x.may == y.may && slices.Equal(x.states, y.states) && slices.Equal(x.holders, y.holders) &&
		slices.Equal(x.faults, y.faults) && x.peaks == y.peaks && slices.Equal(x.dishonest, y.dishonest)
}

// P6: what is handed in stays as it was, its spare room too, and is not kept; what is written into an answer, its
// spare room too, is seen neither there nor in another answer.
func TestSharesNothing(t *testing.T) {
	d := dice(81)
	faults, lies := 0, 0
	for range 400 {
		x := d.tale()
		if d.often(2) {
			x = d.spoilt(x)
		}
		all := around(x.r)
		was, r := cloneRun(all), innerRun(all)
		moves := d.below(50)
		first, second := tell(x.c, x.used, r, moves), tell(x.c, x.used, r, moves)
		if !sameRun(all, was) {
			t.Fatalf("%+v has become %+v", was, all)
		}
		if !first.same(second) {
			t.Fatalf("of %+v: %+v, then %+v", r, first, second)
		}
		faults, lies = faults+len(first.faults), lies+len(first.dishonest)
		fill(first.states, 99)
		fill(first.holders, 98)
		fill(first.faults, api.Fault{Move: 97})
		fill(first.dishonest, 96)
		if !sameRun(all, was) {
			t.Fatalf("an answer is part of what was handed in: %+v", all)
		}
		third := tell(x.c, x.used, r, moves)
		fill(all.Calls, api.Call{Thread: 5})
		fill(all.Trace, api.Access{Move: 5})
		fill(all.Shifts, api.Shift{Move: 5})
		fill(all.Words, 5)
		if !second.same(third) || !third.same(tell(x.c, x.used, innerRun(was), moves)) {
			t.Fatalf("two answers share, or what was handed in is kept: %+v, %+v", second, third)
		}
	}
	if faults < 100 || lies < 20 {
		t.Errorf("only %d faults, %d dishonest", faults, lies)
	}
}

// P6: the same run is answered the same, whatever was asked between, and however its lists lie.
func TestSameAgain(t *testing.T) {
	d := dice(82)
	for range 300 {
		x, other := d.tale(), d.tale()
		first := tell(x.c, x.used, x.r, 20)
		tell(other.c, other.used, other.r, 10)
		if again := tell(x.c, x.used, innerRun(around(x.r)), 20); !first.same(again) {
			t.Fatalf("of %+v: %+v, then %+v", x.r, first, again)
		}
	}
}

// P7: nil and empty lists are the same.
func TestNilAndEmpty(t *testing.T) {
	for used := range 4 {
		x := taleOf(small(), used)
		one := tell(x.c, used, api.Run{Words: x.r.Words}, 3)
		other := tell(x.c, used, api.Run{Calls: []api.Call{}, Trace: []api.Access{}, Shifts: []api.Shift{}, Words: x.r.Words}, 3)
		if !one.may || !one.same(other) {
			t.Errorf("%+v and %+v", one, other)
		}
	}
	wantRefused(t, "no words", small(), 0, api.Run{}, api.ErrRun)
	wantRefused(t, "no words", small(), 0, api.Run{Words: []uint64{}}, api.ErrRun)
}

// P5: runs of any numbers are answered, as the chapter's words tell it.
func TestAnyNumbers(t *testing.T) {
	d := dice(83)
	numbers := []int{least, least + 1, -1 << 32, -2, -1, 0, 1, 2, 3, 7, 15, 16, 1 << 32, greatest - 1, greatest}
	any := func() int { return numbers[d.below(len(numbers))] }
	some := func() int { return numbers[3+d.below(6)] }
	may := 0
	for range 60000 {
		x := taleOf(small(), d.below(4))
		for range d.below(4) {
			x.r.Calls = append(x.r.Calls, api.Call{Thread: d.below(3), Op: api.Op(any()), Begin: any(), End: any(), Point: any(), Answer: api.Answer{Kind: api.AnswerKind(d.below(8))}})
		}
		if d.often(5) {
			x.r.Calls = []api.Call{open(0, api.Op(any()), some()), open(1, api.Op(any()), any())}[:1+d.below(2)]
		}
		for range d.below(2) {
			x.r.Trace = append(x.r.Trace, api.Access{Move: any(), Thread: some(), Kind: api.AccessKind(some()), Addr: some(), Old: uint64(d.below(2)), New: uint64(any()), Saw: uint64(d.below(2))})
		}
		for range d.below(2) {
			x.r.Shifts = append(x.r.Shifts, api.Shift{Move: any(), Thread: some(), Slot: some(), From: api.State(some()), To: api.State(some())})
		}
		if x.wantPlain(t, any()) && len(x.r.Calls) > 0 {
			may++
		}
		tell(configOf(any(), any(), any(), any(), any(), any(), any()), any(), x.r, any())
		if t.Failed() {
			t.FailNow()
		}
	}
	if may < 2000 {
		t.Errorf("only %d that go together", may)
	}
}

// P5: a run much longer than a script can be.
func TestLongRun(t *testing.T) {
	const calls = 300000
	x := taleOf(configOf(2, 1, 3, 1, 1, 1024, 1), 0)
	for i := range calls {
		begin := 10 * i
		x.r.Calls = append(x.r.Calls, at(begin+7, call(i%2, api.OpPush, begin, begin+8, full)))
		x.shift(begin+3, i%2, i%1024, owned).shift(begin+6, i%2, i%1024, free)
		x.load(begin+4, i%2, addrOf(x.c, api.RegionValue, i%1024, 0))
	}
	x.wantFaults(t, "a long run")
	x.wantPeaks(t, "a long run", api.Peaks{Owned: 1, Gap: 1, Steps: 2})
	if l, e := census.Dishonest(x.c, x.used, x.r); len(l) != calls || e != api.OK {
		t.Errorf("%d dishonest, %d", len(l), e)
	}
}
