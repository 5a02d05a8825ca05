package census_test

import (
	"slices"
	"testing"

	"reclaim/api"
)

// dice are the same numbers each time.
type dice uint64

func (d *dice) below(n int) int {
	*d = *d*6364136223846793005 + 1442695040888963407
	return int(uint64(*d) >> 33 % uint64(n))
}

// often tells so in so many of ten cases.
func (d *dice) often(of10 int) bool { return d.below(10) < of10 }

// tale is a run of any calls, accesses and shifts that goes together, over few slots, so that all meet.
func (d *dice) tale() *tale {
	c := configOf(1+d.below(3), 1+d.below(2), 3, 1, 1, 1+d.below(3), 1)
	x := taleOf(c, d.below(c.Slots+1))
	on := slices.Repeat([]int{-1}, c.Threads) // of each thread, the number of its call
	move := d.below(3)
	for range d.below(40) {
		thread := d.below(c.Threads)
		if on[thread] < 0 {
			op := []api.Op{api.OpPush, api.OpTake, api.OpRegister}[d.below(3)]
			on[thread] = len(x.r.Calls)
			x.r.Calls = append(x.r.Calls, open(thread, op, move))
		} else if d.goOn(x, &x.r.Calls[on[thread]], move) {
			on[thread] = -1
		}
		move += 1 + d.below(2)*d.below(3)
	}
	return x
}

// goOn lets a call do something in a move, and tells whether it ends in it.
func (d *dice) goOn(x *tale, c *api.Call, move int) bool {
	if d.often(6) {
		d.access(x, c.Thread, move)
	}
	if d.often(5) {
		for range 1 + d.below(3) {
			d.shift(x, c.Thread, move)
		}
	}
	if d.often(3) {
		c.Point = move
	}
	if !d.often(2) {
		return false
	}
	c.End, c.Answer = move, []api.Answer{full, full, done, value(7)}[d.below(4)]
	return true
}

// access is mostly of a hazard, or of a slot's own words.
func (d *dice) access(x *tale, thread, move int) {
	addr := d.below(len(x.r.Words))
	slot := d.below(x.c.Slots)
	switch d.below(5) {
	case 0, 1:
		addr = addrOf(x.c, api.RegionHazard, d.below(x.c.Records), d.below(x.c.Hazards))
	case 2, 3:
		addr = addrOf(x.c, api.RegionValue+api.Region(d.below(3)), slot, 0)
	}
	words := []uint64{0, link(slot), link(slot), link(0), link(slot) + 1<<32}
	switch d.below(4) {
	case 0:
		x.load(move, thread, addr)
	case 1:
		x.swap(move, thread, addr, words[d.below(5)], words[d.below(5)])
	default:
		x.store(move, thread, addr, words[d.below(5)])
	}
}

// shift is mostly one that may be made.
func (d *dice) shift(x *tale, thread, move int) {
	slot := d.below(x.c.Slots)
	next := [6][]api.State{free: {owned}, cached: {owned, free}, owned: {linked, linked, cached, free}, linked: {detached}, detached: {retired}, retired: {free, cached}}
	l := next[x.states[slot]]
	to := l[d.below(len(l))]
	if d.often(2) {
		to = api.State(d.below(6))
	}
	x.shift(move, thread, slot, to)
}

// spoilt is a tale in which a number or two are others.
func (d *dice) spoilt(x *tale) *tale {
	out := *x
	out.r = api.Run{Calls: slices.Clone(x.r.Calls), Trace: slices.Clone(x.r.Trace), Shifts: slices.Clone(x.r.Shifts), Words: slices.Clone(x.r.Words)}
	for range 1 + d.below(2) {
		switch d.below(8) {
		case 0, 1, 2:
			d.spoilCall(&out)
		case 3, 4:
			d.spoilAccess(&out)
		case 5, 6:
			d.spoilShift(&out)
		case 7:
			out.r.Words[d.below(len(out.r.Words))] = uint64(d.below(2))
		}
	}
	return &out
}

// near is a move that the run has, or one beside it.
func (d *dice) near(x *tale) int {
	l := []int{0}
	for _, c := range x.r.Calls {
		l = append(l, c.Begin, c.End, c.Point)
	}
	for _, a := range x.r.Trace {
		l = append(l, a.Move)
	}
	return l[d.below(len(l))] + d.below(3) - 1
}

func (d *dice) spoilCall(x *tale) {
	if len(x.r.Calls) == 0 {
		return
	}
	c := &x.r.Calls[d.below(len(x.r.Calls))]
	switch d.below(6) {
	case 0:
		c.Thread = d.below(x.c.Threads+2) - 1
	case 1:
		c.Begin = d.near(x)
	case 2:
		c.End = d.near(x)
		if c.Answer = done; c.End == -1 {
			c.Answer = none
		}
	case 3:
		c.Point = d.near(x)
	case 4:
		c.Answer = api.Answer{Kind: api.AnswerKind(d.below(9) - 1), Value: d.below(2)}
	case 5:
		x.r.Calls = append(x.r.Calls, open(d.below(x.c.Threads), api.OpPush, d.near(x)))
	}
}

func (d *dice) spoilAccess(x *tale) {
	if len(x.r.Trace) == 0 {
		return
	}
	i := d.below(len(x.r.Trace))
	a := &x.r.Trace[i]
	switch d.below(8) {
	case 0:
		a.Move = d.near(x)
	case 1:
		a.Thread = d.below(x.c.Threads+2) - 1
	case 2:
		a.Kind = api.AccessKind(d.below(5))
	case 3:
		a.Addr = d.below(len(x.r.Words)+2) - 1
	case 4:
		a.Old = uint64(d.below(3))
	case 5:
		a.New = uint64(d.below(3))
	case 6:
		a.Saw = uint64(d.below(3))
	case 7:
		x.r.Trace = slices.Delete(x.r.Trace, i, i+1)
	}
}

func (d *dice) spoilShift(x *tale) {
	if len(x.r.Shifts) == 0 {
		return
	}
	i := d.below(len(x.r.Shifts))
	s := &x.r.Shifts[i]
	switch d.below(6) {
	case 0:
		s.Move = d.near(x)
	case 1:
		s.Thread = d.below(x.c.Threads+2) - 1
	case 2:
		s.Slot = d.below(x.c.Slots+2) - 1
	case 3:
		s.From = api.State(d.below(8) - 1)
	case 4:
		s.To = api.State(d.below(8) - 1)
	case 5:
		x.r.Shifts = slices.Delete(x.r.Shifts, i, i+1)
	}
}

// P13.1 to P13.5: runs of all kinds, as the chapter's words tell it.
func TestPlain(t *testing.T) {
	d := dice(61)
	met := map[api.FaultKind]int{}
	lies := 0
	for range 6000 {
		x := d.tale()
		if !x.wantPlain(t, d.below(60), d.near(x)) {
			t.Fatalf("%+v doesn't go together", x.r)
		}
		for _, f := range plainFaults(x.c, x.used, x.r) {
			met[f.Kind]++
		}
		lies += len(plainDishonest(x.c, x.used, x.r))
		if t.Failed() {
			t.FailNow()
		}
	}
	for kind := api.FaultFree; kind <= api.FaultHazard; kind++ {
		if met[kind] < 200 {
			t.Errorf("only %d faults of kind %d", met[kind], kind)
		}
	}
	if lies < 200 {
		t.Errorf("only %d that are dishonest", lies)
	}
}

// P13.1: runs of which a number or two are others.
func TestPlainSpoilt(t *testing.T) {
	d := dice(62)
	may, not := 0, 0
	for range 20000 {
		x := d.spoilt(d.tale())
		if x.wantPlain(t, d.below(60)) {
			may++
		} else {
			not++
		}
		if t.Failed() {
			t.FailNow()
		}
	}
	if may < 1000 || not < 5000 {
		t.Errorf("only %d that go together, %d that don't", may, not)
	}
}
