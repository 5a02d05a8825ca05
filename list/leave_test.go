package list_test

import (
	"testing"

	"reclaim/list"
)

// P8.3: three stores, of the thread's own hazards, whatever stands there.
func TestLeave(t *testing.T) {
	c := configOf(2, 2, 1, 0, 2)
	c.Hazards = 4
	y := yardOf(t, c)
	y.calls(t, register(0), register(1))
	for record := range 2 {
		for k := range 4 {
			y.call(t, poked(0, y.hazardAt(record, k), link(k&1)))
		}
	}
	y.begin(t, 1, list.Leave(y.Hazards, 1))
	from, shifts := y.accesses(), y.shifts()
	if steps := y.finish(t, 1); steps != 3 {
		t.Errorf("%d steps", steps)
	}
	y.wantSeen(t, from, track{y, 1}.leave()...)
	y.wantShifts(t, shifts)
	for k := range 4 {
		if got := y.word(y.hazardAt(0, k)); got != link(k&1) {
			t.Errorf("another's hazard %d is %x", k, got)
		}
	}
	if got := y.word(y.hazardAt(1, 3)); got != link(1) {
		t.Errorf("hazard 3 is %x", got)
	}
	y.wantAnswer(t, 1, done)
}

// A part that has ended does nothing more.
func TestLeaveThatHasEnded(t *testing.T) {
	y := listOf(t, 5)
	l := list.Leave(y.Hazards, 1)
	y.begin(t, 1, l)
	y.finish(t, 1)
	before := y.m.Run()
	y.begin(t, 1, l)
	if steps := y.finish(t, 1); steps != 1 {
		t.Errorf("%d steps more", steps)
	}
	y.wantOnlyCalls(t, before)
	if !l.Ready(nil) || !l.Step(nil) {
		t.Error("it has not ended")
	}
}
