package list_test

import (
	"math/bits"
	"slices"
	"testing"

	"reclaim/api"
)

// P8.7: Yes or No by Find, at its point, which stands from Find's end on; the answer from the end on.
func TestContains(t *testing.T) {
	for _, c := range []struct {
		key, point, ended int
		want              api.Answer
	}{
		{4, 8, 8, no}, {5, 6, 8, yes}, {6, 15, 15, no}, {7, 13, 15, yes}, {8, 13, 15, no},
	} {
		y := listOf(t, 5, 7)
		before := y.m.Run()
		y.make(t, api.Move{Thread: 1, Op: api.OpContains, Arg: c.key, Data: 77})
		y.steps(t, 1, c.ended-1)
		y.wantOnWay(t, 1)
		for range 4 {
			if y.last(1).End >= 0 {
				t.Errorf("%+v", y.last(1))
			}
			y.steps(t, 1, 1)
			if got := y.last(1); got.Point != got.Begin+c.point {
				t.Errorf("%+v", got)
			}
		}
		if got := y.last(1); got.Answer != c.want || got.End != got.Begin+c.ended+3 || got.Data != 77 {
			t.Errorf("%+v", got)
		}
		y.wantShifts(t, len(before.Shifts))
		after := y.m.Run()
		if !slices.Equal(after.Words, before.Words) {
			t.Errorf("%d: the words are %v, not %v", c.key, after.Words, before.Words)
		}
	}
}

// P8.7: over an empty list.
func TestContainsOfAnEmptyList(t *testing.T) {
	y := listOf(t)
	from := y.accesses()
	got := y.call(t, contains(1, 5))
	if got.Answer != no || got.Point != got.Begin+1 || got.End != got.Begin+4 {
		t.Errorf("%+v", got)
	}
	y.wantSeen(t, from, slices.Concat([]api.Access{load(1, rootAddr, 0)}, track{y, 1}.leave())...)
}

// P8.7: a key whose slot has a mark isn't there.
func TestContainsOfAMarkedSlot(t *testing.T) {
	y := listOf(t, 5)
	y.mark(t, 0)
	got := y.call(t, contains(1, 5))
	if got.Answer != no || got.Point != got.Begin+9 || got.End != got.Begin+12 {
		t.Errorf("%+v", got)
	}
	y.wantList(t, 1, 0)
}

// P8.7: a Contains that comes by while the slot is taken out begins again, and tells what is so by then.
func TestContainsOvertaken(t *testing.T) {
	y := listOf(t, 5)
	y.make(t, contains(1, 5))
	y.steps(t, 1, 5) // ahead of F6
	y.call(t, remove(0, 5))
	y.finish(t, 1)
	if got := y.last(1); got.Answer != no || got.Point != got.End-3 {
		t.Errorf("%+v", got)
	}
	// Behind F6 and F8 the key is found, though it is taken out ahead of the call's end.
	y = listOf(t, 5)
	y.make(t, contains(1, 5))
	y.steps(t, 1, 8)
	y.call(t, remove(0, 5))
	y.finish(t, 1)
	if got := y.last(1); got.Answer != yes || got.Point != got.Begin+6 || got.Point > y.last(0).Point {
		t.Errorf("%+v", got)
	}
}

// P8.12: a Contains that is alone makes at most 5 + 7 * n accesses, and for each marked slot those of a
// Retire: its scan's loads of hazards and active words, and what gives slots back.
func TestContainsAlone(t *testing.T) {
	greatest := 0
	for n := range 6 {
		for marks := range 1 << n {
			for _, retire := range []int{1, 2, 9} {
				for key := range 2*n + 1 {
					greatest = max(greatest, aloneOver(t, n, marks, retire, key)-5-7*n)
				}
			}
		}
	}
	if greatest != 0 {
		t.Errorf("the most is %d above the bound", greatest)
	}
}

// aloneOver makes a Contains over a list of keys 1, 3, .., of which some are marked, and tells how many
// accesses it makes that are not of a Retire.
func aloneOver(t *testing.T, n, marks, retire, key int) int {
	t.Helper()
	y := yardOf(t, configOf(2, 2, retire, 0, n+1))
	y.calls(t, register(0), register(1))
	for i := range n {
		y.insertAll(t, 2*i+1)
	}
	for i := range n {
		if marks>>i&1 == 1 {
			y.mark(t, i)
		}
	}
	from := y.accesses()
	got := y.call(t, contains(1, key))
	if want := key&1 == 1 && marks>>(key/2)&1 == 0; (got.Answer == yes) != want {
		t.Fatalf("%d of %d keys, marks %b: %+v", key, n, marks, got)
	}
	own, retired := 0, 0
	for _, a := range y.m.Run().Trace[from:] {
		switch first, last := y.hazardAt(0, 0), y.hazardAt(1, 2); {
		case a.Kind == api.AccessLoad && a.Addr >= first && a.Addr <= last, a.Addr == freeAddr,
			a.Addr == y.addr(api.RegionActive, 0, 0), a.Addr > last && a.Addr < y.valueAt(0):
			retired++
		default:
			own++
		}
	}
	if retired > 0 && (marks == 0 || retire > bits.OnesCount(uint(marks))) {
		t.Fatalf("%d keys, marks %b: %d accesses of Retire", n, marks, retired)
	}
	if own > 5+7*n {
		t.Fatalf("%d of %d keys, marks %b: %d accesses", key, n, marks, own)
	}
	return own
}
