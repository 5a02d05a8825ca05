package table_test

import (
	"math"
	"slices"
	"testing"

	"reclaim/api"
)

// OpGet: by Find, at its point, which stands from Find's end on; the answer from the end on. Of a key that
// is there the slot's data is loaded behind Find, ahead of Leave.
func TestGet(t *testing.T) {
	for _, c := range []struct {
		key, point, ended int
		slot              int // whose data is loaded; -1: none's
		want              api.Answer
	}{
		{3, 8, 8, -1, no}, {5, 6, 8, 0, value(50)}, {7, 15, 15, -1, no}, {9, 13, 15, 1, value(90)}, {11, 13, 15, -1, no}, {4, 1, 1, -1, no},
	} {
		y := tableOf(t, 5, 9)
		before := y.m.Run()
		y.make(t, api.Move{Thread: 1, Op: api.OpGet, Arg: c.key, Data: 77})
		y.steps(t, 1, c.ended-1)
		y.wantOnWay(t, 1)
		y.steps(t, 1, 1)
		from, left := y.accesses(), 3
		k := y.track(1, c.key)
		want := k.leave()
		if c.slot >= 0 {
			left, want = 4, slices.Concat(k.see(c.slot, 10*c.key), want)
		}
		for range left {
			if got := y.last(1); got.Point != got.Begin+c.point || got.End >= 0 || got.Answer != (api.Answer{}) {
				t.Errorf("%+v", got)
			}
			y.steps(t, 1, 1)
		}
		if got := y.last(1); got.Answer != c.want || got.Point != got.Begin+c.point || got.End != got.Begin+c.ended+left || got.Data != 77 {
			t.Errorf("%+v", got)
		}
		y.wantSeen(t, from, want...)
		y.wantShifts(t, len(before.Shifts))
		if after := y.m.Run(); !slices.Equal(after.Words, before.Words) {
			t.Errorf("%d: the words are %v, not %v", c.key, after.Words, before.Words)
		}
	}
}

// What is found is told as it was added, whatever int it is.
func TestGetOfAnyValue(t *testing.T) {
	for _, data := range []int{0, 1, -1, math.MaxInt, math.MinInt} {
		y := tableOf(t)
		y.call(t, add(0, 5, data))
		if got := y.call(t, get(1, 5)); got.Answer != value(data) {
			t.Errorf("%+v, not %d", got, data)
		}
	}
}

// A key whose slot has a mark isn't there; the slot is taken out on the way.
func TestGetOfAMarkedSlot(t *testing.T) {
	y := tableOf(t, 5)
	y.mark(t, 0)
	k := y.track(1, 5)
	from := y.accesses()
	got := y.call(t, get(1, 5))
	if got.Answer != no || got.Point != got.Begin+9 || got.End != got.Begin+12 {
		t.Errorf("%+v", got)
	}
	y.wantSeen(t, from, slices.Concat(k.first(0), k.look(k.root, 0, marked(-1), 5), k.unlink(k.root, 0, marked(-1)), k.leave())...)
	y.wantList(t, 1, 0)
	y.wantSlots(t, 1)
}

// A Get whose Find is overtaken begins it again.
func TestGetOvertaken(t *testing.T) {
	y := tableOf(t, 5)
	k := y.track(1, 5)
	y.make(t, get(1, 5))
	y.steps(t, 1, 7)
	y.call(t, add(0, 3, 30))
	from := y.accesses()
	y.steps(t, 1, 1)
	y.wantOnWay(t, 1)
	y.finish(t, 1)
	y.wantSeen(t, from, slices.Concat([]api.Access{load(1, k.root, link(1))}, k.first(1), k.look(k.root, 1, link(0), 3), k.pass(1, 0),
		k.look(y.linkAt(1), 0, 0, 5), k.see(0, 50), k.leave())...)
	if got := y.last(1); got.Answer != value(50) || got.Point != got.End-6 {
		t.Errorf("%+v", got)
	}
}

// The key is removed, and added anew with another value, behind Find's end: the slot is named, so that its
// data is what it was at the point, which is ahead of the Remove's.
func TestGetOfAKeyThatIsRemoved(t *testing.T) {
	y := yardOf(t, configOf(2, 2, 1, 0, 2, 2))
	y.calls(t, register(0), register(1))
	y.addAll(t, 5)
	y.make(t, get(1, 5))
	y.steps(t, 1, 8)
	if got := y.call(t, remove(0, 5)); got.Answer != value(50) || got.Point <= y.last(1).Point {
		t.Errorf("%+v", got)
	}
	y.calls(t, scan(0), add(0, 5, 51))
	y.wantState(t, 0, api.StateRetired, 0)
	y.finish(t, 1)
	y.wantAnswer(t, 1, value(50))
	y.call(t, get(1, 5))
	y.wantAnswer(t, 1, value(51))
	y.call(t, scan(0))
	y.wantState(t, 0, api.StateFree, -1)
}
