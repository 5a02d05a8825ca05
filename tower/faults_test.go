package tower_test

import (
	"testing"

	"reclaim/api"
)

// P18.2, part 7: no faults, no lines.
func TestNoFaults(t *testing.T) {
	taleOf(small()).wantLines(t, "the beginning", "fault")
	two().shift(4, 0, 3, owned).store(5, 0, addrOf(small(), api.RegionValue, 3, 0), 9).wantLines(t, "an owner", "fault")
}

// P18.2, part 7: each kind by itself.
func TestFaultsOfEachKind(t *testing.T) {
	value := addrOf(small(), api.RegionValue, 3, 0)
	two().load(6, 0, value).wantLines(t, "free", "fault", "fault free move 6 slot 3")
	two().shift(4, 0, 3, owned).shift(5, 0, 3, cached).load(6, 0, value).wantLines(t, "cached", "fault", "fault free move 6 slot 3")
	two().shift(4, 0, 3, owned).load(6, 1, value).wantLines(t, "foreign", "fault", "fault foreign move 6 slot 3")
	two().shift(7, 1, 5, retired).wantLines(t, "shift", "fault", "fault shift move 7 slot 5")
	two().shift(3, 0, 2, owned, linked).store(4, 1, addrOf(small(), api.RegionHazard, 1, 2), link(2)).shift(5, 0, 2, detached, retired).shift(8, 0, 2, free).
		wantLines(t, "hazard", "fault", "fault hazard move 8 slot 2")
	two().shift(greatest, 1, 0, free).wantLines(t, "the greatest move", "fault", "fault shift move 9223372036854775807 slot 0")
}

// P18.2, part 7: several, by rising move, of one move the access's first.
func TestFaultsInOrder(t *testing.T) {
	x := two().shift(3, 0, 2, linked).store(4, 1, addrOf(small(), api.RegionHazard, 0, 1), link(2)).shift(5, 0, 2, detached, retired)
	x.load(6, 0, addrOf(small(), api.RegionLink, 5, 0)).shift(6, 0, 2, cached).shift(6, 0, 1, retired)
	x.shift(7, 0, 4, owned).store(8, 1, addrOf(small(), api.RegionData, 4, 0), 1)
	x.wantLines(t, "all kinds", "fault",
		"fault shift move 3 slot 2", "fault free move 6 slot 5", "fault hazard move 6 slot 2", "fault shift move 6 slot 1", "fault foreign move 8 slot 4")
}

// P18.2, part 8: no call that is dishonest, one, several.
func TestDishonest(t *testing.T) {
	two().wantLines(t, "none that is full", "dishonest", "dishonest -")
	taken := func(calls ...api.Call) *tale {
		x := taleOf(configOf(2, 1, 3, 1, 1, 2, 1), append([]api.Call{open(0, 77, 0, 0)}, calls...)...)
		return x.shift(5, 0, 1, owned)
	}
	taken(call(1, api.OpTake, 0, 1, 6, -1, full)).wantLines(t, "none is free", "dishonest", "dishonest -")
	taken(call(1, api.OpTake, 0, 1, 4, -1, full)).wantLines(t, "one is free", "dishonest", "dishonest 1")
	taken(call(1, api.OpPush, 3, 1, 6, 4, full)).wantLines(t, "one was free", "dishonest", "dishonest 1")
	taken(call(1, api.OpPush, 3, 1, 6, -1, full)).wantLines(t, "no point", "dishonest", "dishonest -")
	taken(call(1, api.OpPush, 3, 1, 3, 2, full), call(1, api.OpTake, 0, 4, 7, -1, full), call(1, api.OpPush, 3, 8, 10, 9, full)).
		wantLines(t, "the first one", "dishonest", "dishonest 1")
	var calls []api.Call
	for i := range 12 {
		calls = append(calls, call(1, api.OpEnqueue, i, 3*i, 3*i+2, 3*i+1, full))
	}
	taleOf(small(), calls...).wantLines(t, "all", "dishonest", "dishonest 0 1 2 3 4 5 6 7 8 9 10 11")
}
