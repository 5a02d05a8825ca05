package split_test

import (
	"testing"

	"reclaim/api"
)

// P23.5: a get of a key that is there: its data is loaded; the point is Find's, and stands from the move in which
// that ended.
func TestGetValue(t *testing.T) {
	y := filled(t, pair(8, 1, 16), 2, 1)
	s := y.s
	y.tells(t, get(1, 2), value(20), 6, all(
		y.loadsSize(1, 1), y.first(1, rootAt, 0), y.looks(1, rootAt, 0, link(1), keyAt(2)),
		one(load(1, dataAt(s, 0), 20)), y.leaves(1))...)
	y.tells(t, get(1, 1), value(10), 13, all(
		y.loadsSize(1, 1), y.first(1, rootAt, 0), y.looks(1, rootAt, 0, link(1), keyAt(2)), y.passes(1, 0, 1), y.looks(1, linkAt(s, 0), 1, 0, keyAt(1)),
		one(load(1, dataAt(s, 1), 10)), y.leaves(1))...)
	y.make(t, get(1, 2))
	y.steps(t, 1, 8)
	y.pending(t, 1, -1)
	y.steps(t, 1, 1)
	point := y.now() - 2
	for range 4 {
		y.pending(t, 1, point)
		y.steps(t, 1, 1)
	}
	y.ended(t, 1, value(20), point)
}

// P23.5: a get of a key that isn't there, in an empty table, ahead of a slot and behind all.
func TestGetNo(t *testing.T) {
	y := filled(t, pair(8, 1, 16))
	y.tells(t, get(1, 2), no, 1, all(y.loadsSize(1, 1), y.shows(1, rootAt))...)
	y.adds(t, 2)
	y.tells(t, get(1, 0), no, 8, all(y.loadsSize(1, 1), y.first(1, rootAt, 0), y.looks(1, rootAt, 0, 0, keyAt(2)), y.leaves(1))...)
	y.tells(t, get(1, 1), no, 6, all(y.loadsSize(1, 1), y.first(1, rootAt, 0), y.looks(1, rootAt, 0, 0, keyAt(2)), y.leaves(1))...)
	y.make(t, get(1, 0))
	y.steps(t, 1, 9)
	point := y.now()
	for range 3 {
		y.pending(t, 1, point)
		y.steps(t, 1, 1)
	}
	y.ended(t, 1, no, point)
}

// P23.5: what a get answers is what it saw, also where the key is taken out ahead of the load of its data.
func TestGetOfAKeyThatGoes(t *testing.T) {
	y := filled(t, pair(8, 1, 16), 2)
	s := y.s
	y.make(t, get(1, 2))
	y.goesTo(t, 1, api.AccessLoad, dataAt(s, 0))
	point := y.now() - 2
	y.calls(t, value(20), remove(0, 2))
	y.calls(t, yes, add(0, 2, 22))
	y.goes(t, load(1, dataAt(s, 0), 20))
	y.goes(t, y.leaves(1)...)
	y.ended(t, 1, value(20), point)
}

// P23.5: a get goes by the size that it saw, whatever becomes of the table meanwhile.
func TestGetAmidADoubling(t *testing.T) {
	y := filled(t, pair(8, 4, 1), 1)
	y.make(t, get(1, 1))
	y.goes(t, y.loadsSize(1, 1)...)
	y.calls(t, yes, add(0, 2, 20), add(0, 3, 30))
	y.wantSizes(t, 3, 4)
	y.goes(t, load(1, rootAt, y.word(rootAt)))
	y.finish(t, 1)
	y.wantBuckets(t, 1) // planted by the last add, at the size 2
	if got := y.last(1).Answer; got != value(10) {
		t.Errorf("%+v", got)
	}
	y.wantHolds(t)
}

// P23.5: a get takes marked slots out on its way, and doesn't see their keys.
func TestGetOfAMarkedSlot(t *testing.T) {
	y := filled(t, pair(8, 1, 16), 2)
	s := y.s
	y.make(t, remove(0, 2))
	y.goesTo(t, 0, api.AccessLoad, dataAt(s, 0))
	y.make(t, get(1, 2))
	y.goes(t, all(y.loadsSize(1, 1), y.first(1, rootAt, 0), y.looks(1, rootAt, 0, marked(-1), keyAt(2)), one(swap(1, rootAt, link(0), 0)))...)
	point := y.now()
	y.goes(t, y.leaves(1)...)
	y.ended(t, 1, no, point)
	y.wantState(t, 0, api.StateRetired)
	y.finish(t, 0)
	y.wantSizes(t, 0, 1)
}
