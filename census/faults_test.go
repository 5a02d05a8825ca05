package census_test

import (
	"testing"

	"reclaim/api"
	"reclaim/word"
)

const (
	free     = api.StateFree
	cached   = api.StateCached
	owned    = api.StateOwned
	linked   = api.StateLinked
	detached = api.StateDetached
	retired  = api.StateRetired
)

// ways are the shifts that may be made by which a slot that is free comes to a state.
var ways = [6][]api.State{free: {}, cached: {owned, cached}, owned: {owned}, linked: {owned, linked}, detached: {owned, linked, detached}, retired: {owned, linked, detached, retired}}

// pair is a tale of two threads that are each in a call, from move 2 on.
func pair() *tale {
	return taleOf(configOf(2, 2, 3, 1, 1, 3, 1), 0, open(0, api.OpPush, 0), open(1, api.OpPush, 1))
}

// brought is a pair's tale in which thread 0 has brought slot 1 to a state, up to move 9.
func brought(s api.State) *tale { return pair().shift(9, 0, 1, ways[s]...) }

func fault(kind api.FaultKind, move, slot int) api.Fault {
	return api.Fault{Kind: kind, Move: move, Slot: slot}
}

// access makes an access of a kind at an address; kind 4 is a swap that fails.
func (x *tale) access(kind, move, thread, addr int) *tale {
	switch kind {
	case 1:
		return x.load(move, thread, addr)
	case 2:
		return x.store(move, thread, addr, 77)
	case 3:
		return x.swap(move, thread, addr, x.r.Words[addr], 78)
	}
	return x.swap(move, thread, addr, x.r.Words[addr]+1, 79)
}

// accessFault is the fault of an access to a slot by a thread in move 10, which thread 0 has brought to a state.
func accessFault(s api.State, thread int) []api.Fault {
	switch {
	case s == free || s == cached:
		return []api.Fault{fault(api.FaultFree, 10, 1)}
	case s == owned && thread != 0:
		return []api.Fault{fault(api.FaultForeign, 10, 1)}
	}
	return nil
}

// P13.3: an access of each kind to the value, data and link of a slot in each state, by its holder and by another.
func TestAccessFaults(t *testing.T) {
	for s := free; s <= retired; s++ {
		for thread := range 2 {
			for _, r := range []api.Region{api.RegionValue, api.RegionData, api.RegionLink} {
				for kind := 1; kind <= 4; kind++ {
					x := brought(s)
					x.access(kind, 10, thread, addrOf(x.c, r, 1, 0))
					x.wantFaults(t, "an access", accessFault(s, thread)...)
				}
			}
		}
	}
}

// P13.3: of all other words no access is looked at, nor is one of another slot that may be accessed.
func TestOtherAccesses(t *testing.T) {
	for s := free; s <= retired; s++ {
		x := brought(s)
		for addr := range x.r.Words {
			place, _ := word.At(x.c, addr)
			want := []api.Fault(nil)
			if place.Region >= api.RegionValue {
				want = []api.Fault{fault(api.FaultFree, 10, place.I)}
				if place.I == 1 {
					want = accessFault(s, 1)
				}
			}
			for kind := 1; kind <= 4; kind++ {
				brought(s).access(kind, 10, 1, addr).wantFaults(t, "an access", want...)
			}
		}
	}
}

// P13.3: the states behind the move are enough, and so are those ahead of it; those in its midst are not.
func TestAccessFaultsBehind(t *testing.T) {
	value := addrOf(pair().c, api.RegionValue, 1, 0)
	for _, w := range []struct {
		from   api.State
		thread int
		to     []api.State
		want   []api.Fault
	}{
		{free, 1, []api.State{owned}, nil},
		{free, 0, []api.State{owned, linked}, nil},
		{free, 0, []api.State{owned, cached}, []api.Fault{fault(api.FaultFree, 10, 1)}},
		{free, 0, []api.State{owned, free}, []api.Fault{fault(api.FaultFree, 10, 1)}},
		{cached, 0, []api.State{owned}, nil},
		{cached, 0, []api.State{free}, []api.Fault{fault(api.FaultFree, 10, 1)}},
		{cached, 1, []api.State{owned}, []api.Fault{fault(api.FaultShift, 10, 1)}},
		{owned, 0, []api.State{free}, nil},
		{owned, 0, []api.State{cached}, nil},
		{owned, 1, []api.State{linked}, []api.Fault{fault(api.FaultShift, 10, 1)}},
		{owned, 1, []api.State{owned}, []api.Fault{fault(api.FaultShift, 10, 1)}},
		{owned, 1, []api.State{free}, []api.Fault{fault(api.FaultForeign, 10, 1), fault(api.FaultShift, 10, 1)}},
		{owned, 1, []api.State{cached}, []api.Fault{fault(api.FaultForeign, 10, 1), fault(api.FaultShift, 10, 1)}},
		{owned, 1, []api.State{linked, free}, []api.Fault{fault(api.FaultForeign, 10, 1), fault(api.FaultShift, 10, 1), fault(api.FaultShift, 10, 1)}},
		{linked, 1, []api.State{detached}, nil},
		{detached, 0, []api.State{retired}, nil},
		{retired, 1, []api.State{free}, nil},
		{retired, 1, []api.State{cached}, nil},
	} {
		brought(w.from).load(10, w.thread, value).shift(10, w.thread, 1, w.to...).wantFaults(t, "an access with shifts", w.want...)
	}
	// What another slot goes through in the move is nothing to it.
	brought(free).load(10, 0, value).shift(10, 0, 0, owned).wantFaults(t, "another slot", fault(api.FaultFree, 10, 1))
	// Nor is what comes in the next move.
	brought(free).load(10, 0, value).shift(11, 0, 1, owned).wantFaults(t, "a later shift", fault(api.FaultFree, 10, 1))
	pair().shift(9, 0, 1, owned, free).load(10, 0, value).wantFaults(t, "an earlier shift", fault(api.FaultFree, 10, 1))
}

// P13.3: each shift that may be and each that may not, by the slot's holder and by another.
func TestShiftFaults(t *testing.T) {
	may := map[[2]api.State]string{ // by whom
		{free, owned}: "all", {cached, owned}: "holder", {cached, free}: "holder", {owned, linked}: "holder", {owned, cached}: "holder", {owned, free}: "holder",
		{linked, detached}: "all", {detached, retired}: "holder", {retired, cached}: "all", {retired, free}: "all",
	}
	for from := free; from <= retired; from++ {
		for to := free; to <= retired; to++ {
			for thread := range 2 {
				want := []api.Fault{fault(api.FaultShift, 10, 1)}
				if by := may[[2]api.State{from, to}]; by == "all" || by == "holder" && thread == 0 {
					want = nil
				}
				brought(from).shift(10, thread, 1, to).wantFaults(t, "a shift", want...)
			}
		}
	}
}

// P13.3: a shift that is a fault is done: who makes it is the holder.
func TestShiftIsDone(t *testing.T) {
	brought(owned).shift(10, 1, 1, owned).shift(11, 1, 1, linked).wantFaults(t, "an owner's, behind a theft", fault(api.FaultShift, 10, 1))
	brought(owned).shift(10, 1, 1, owned).shift(11, 0, 1, linked).
		wantFaults(t, "one who was robbed", fault(api.FaultShift, 10, 1), fault(api.FaultShift, 11, 1))
	brought(free).shift(10, 0, 1, retired).shift(11, 1, 1, free).wantFaults(t, "a slot that was never linked", fault(api.FaultShift, 10, 1))
}

// deed is something that is done in a move of a slot's life.
type deed struct {
	move int
	do   func(x *tale, move int)
}

// lived is a pair's tale in which thread 0 lets slot 1 go through a life: owned in move 10, linked in 20, detached in
// 30, retired in 40, free again in 50; and does what else there is to be done.
func lived(deeds ...deed) *tale { return livedTo(free, deeds...) }

// livedTo is a life that ends elsewhere.
func livedTo(last api.State, deeds ...deed) *tale {
	x := pair()
	for move := 2; move <= 60; move++ {
		for _, d := range deeds {
			if d.move == move {
				d.do(x, move)
			}
		}
		if move%10 == 0 && move < 60 {
			x.shift(move, 0, 1, []api.State{owned, linked, detached, retired, last}[move/10-1])
		}
	}
	return x
}

// names lets hazard k of a record name a slot.
func names(move, record, k int, w uint64) deed {
	return deed{move, func(x *tale, move int) { x.store(move, 0, addrOf(x.c, api.RegionHazard, record, k), w) }}
}

// swaps lets hazard 0 of record 0 be swapped.
func swaps(move int, old, w uint64) deed {
	return deed{move, func(x *tale, move int) { x.swap(move, 0, addrOf(x.c, api.RegionHazard, 0, 0), old, w) }}
}

var held = api.Fault{Kind: api.FaultHazard, Move: 50, Slot: 1}

// P13.3: a hazard holds a slot that has been linked since it was written, whenever that was.
func TestHazardHolds(t *testing.T) {
	lived().wantFaults(t, "no hazard")
	for move := 2; move <= 60; move++ {
		want := []api.Fault{held}
		if move > 30 {
			want = nil
		}
		lived(names(move, 0, 0, link(1))).wantFaults(t, "a hazard", want...)
		livedTo(cached, names(move, 0, 0, link(1))).wantFaults(t, "a hazard", want...)
		lived(names(move, 0, 0, 1<<32+link(1))).wantFaults(t, "a hazard with a mark")
		lived(names(move, 0, 0, link(2))).wantFaults(t, "another slot's")
		lived(names(move, 0, 0, 1<<33+link(1))).wantFaults(t, "a word that is no link")
	}
}

// P13.3: each hazard word holds, and no other word; of several it is one fault.
func TestEachHazardHolds(t *testing.T) {
	c := pair().c
	for record := range c.Records {
		for k := range c.Hazards {
			lived(names(25, record, k, link(1))).wantFaults(t, "a hazard", held)
			lived(names(25, record, k, link(1)), names(26, 1-record, k, link(1)), names(27, 0, 0, link(1))).wantFaults(t, "several", held)
		}
	}
	for addr := range pair().r.Words {
		if place, _ := word.At(c, addr); place.Region < api.RegionHazard || place.Region == api.RegionSpare {
			lived(deed{25, func(x *tale, move int) { x.store(move, 0, addr, link(1)) }}).wantFaults(t, "a word that is no hazard")
		}
	}
}

// P13.3: a hazard that is written again holds no more, unless the slot is linked; a swap that fails writes nothing, a
// swap to what stands there does. The access of the shift's own move is made ahead of it.
func TestHazardHoldsNoMore(t *testing.T) {
	first := names(15, 0, 0, link(1))
	for move := 16; move <= 60; move++ {
		cleared := []api.Fault(nil)
		if move > 50 {
			cleared = []api.Fault{held}
		}
		again := cleared
		if move <= 30 {
			again = []api.Fault{held}
		}
		lived(first, names(move, 0, 0, 0)).wantFaults(t, "cleared", cleared...)
		lived(first, names(move, 0, 0, link(0))).wantFaults(t, "of another slot", cleared...)
		lived(first, swaps(move, link(1), 0)).wantFaults(t, "swapped", cleared...)
		lived(first, names(move, 0, 0, link(1))).wantFaults(t, "written again", again...)
		lived(first, swaps(move, link(1), link(1))).wantFaults(t, "swapped to the same", again...)
		lived(first, swaps(move, link(2), link(1))).wantFaults(t, "a swap that fails", held)
		lived(first, swaps(move, link(2), 0)).wantFaults(t, "a swap that fails", held)
		lived(first, names(move, 0, 1, 0)).wantFaults(t, "another hazard's", held)
		lived(first, names(move, 1, 0, 0)).wantFaults(t, "another record's", held)
	}
	for move := 16; move <= 60; move++ {
		want := []api.Fault(nil)
		if move <= 30 {
			want = []api.Fault{held}
		}
		lived(swaps(15, link(2), link(1)), swaps(move, 0, link(1))).wantFaults(t, "a swap behind one that fails", want...)
	}
}

// P13.3: of a slot that is linked at the beginning; of one that is linked at some time of the writing's own move, in
// which all the others may be too.
func TestHazardInOneMove(t *testing.T) {
	hazard := addrOf(pair().c, api.RegionHazard, 1, 2)
	used := func() *tale { return taleOf(pair().c, 1, open(0, api.OpPush, 0), open(1, api.OpPush, 1)) }
	used().store(5, 1, hazard, link(0)).shift(9, 0, 0, detached, retired, free).
		wantFaults(t, "linked from the beginning on", fault(api.FaultHazard, 9, 0))
	used().store(9, 0, hazard, link(0)).shift(9, 0, 0, detached, retired, free).
		wantFaults(t, "linked ahead of the move", fault(api.FaultHazard, 9, 0))
	used().shift(8, 0, 0, detached).store(9, 0, hazard, link(0)).shift(9, 0, 0, retired, free).
		wantFaults(t, "detached ahead of the move")
	pair().store(9, 0, hazard, link(1)).shift(9, 0, 1, owned, linked).shift(10, 0, 1, detached, retired).shift(11, 0, 1, cached).
		wantFaults(t, "linked behind the move", fault(api.FaultHazard, 11, 1))
	pair().store(9, 0, hazard, link(1)).shift(9, 0, 1, owned, linked, detached, retired).shift(10, 0, 1, free).
		wantFaults(t, "linked in the midst of the move", fault(api.FaultHazard, 10, 1))
	pair().store(9, 0, hazard, link(1)).shift(9, 0, 1, owned, linked, detached, retired, free).
		wantFaults(t, "all in one move", fault(api.FaultHazard, 9, 1))
	pair().shift(8, 0, 1, owned, linked, detached, retired).store(9, 0, hazard, link(1)).shift(9, 0, 1, free, owned, linked).
		wantFaults(t, "linked behind the shift")
}

// P13.3: a hazard that is left as it is holds the slot again when it is linked again, and not in the life between.
func TestHazardOfAnotherLife(t *testing.T) {
	x := lived(names(35, 0, 0, link(1)))
	x.wantFaults(t, "named when it was detached")
	x.shift(70, 1, 1, owned, cached).shift(71, 1, 1, owned).shift(72, 1, 1, linked).shift(73, 1, 1, detached, retired).shift(80, 0, 1, cached).
		wantFaults(t, "linked again", fault(api.FaultHazard, 80, 1))
	x = lived(names(25, 0, 0, link(1)))
	x.shift(70, 1, 1, owned, linked).shift(73, 1, 1, detached, retired).shift(80, 0, 1, free).
		wantFaults(t, "two lives", held, fault(api.FaultHazard, 80, 1))
}

// P13.3: what goes from Retired elsewhere, and what goes to Free from elsewhere, is no fault of a hazard's.
func TestHazardOfOtherShifts(t *testing.T) {
	for to := free; to <= retired; to++ {
		want := []api.Fault{fault(api.FaultShift, 50, 1)}
		if to == free || to == cached {
			want = []api.Fault{held}
		}
		livedTo(to, names(25, 0, 0, link(1))).wantFaults(t, "from Retired", want...)
	}
	hazard := addrOf(pair().c, api.RegionHazard, 0, 0)
	for from := free; from < retired; from++ {
		for _, to := range []api.State{free, cached} {
			x := brought(linked).store(10, 0, hazard, link(1))
			x.shift(11, 0, 1, detached, retired, from).shift(12, 0, 1, to)
			for _, f := range x.faults(t) {
				if f.Kind == api.FaultHazard && f.Move != 11 {
					t.Errorf("from %d to %d: %v", from, to, f)
				}
			}
		}
	}
}

// P13.3: the faults of one move: the access's, then the shifts' in their order; and moves rise.
func TestFaultsInOrder(t *testing.T) {
	c := pair().c
	value := addrOf(c, api.RegionValue, 2, 0)
	pair().shift(10, 0, 1, linked).load(10, 0, value).shift(10, 0, 0, cached, linked).
		wantFaults(t, "an access and three shifts", fault(api.FaultFree, 10, 2), fault(api.FaultShift, 10, 1), fault(api.FaultShift, 10, 0), fault(api.FaultShift, 10, 0))
	x := lived(names(25, 0, 0, link(1)))
	x.shift(62, 1, 0, linked).shift(63, 1, 2, owned).store(64, 0, value, 1)
	x.wantFaults(t, "four moves", held, fault(api.FaultShift, 62, 0), fault(api.FaultForeign, 64, 2))
	x = brought(linked).store(10, 0, addrOf(c, api.RegionHazard, 0, 0), link(1)).shift(11, 0, 1, detached, retired)
	x.load(12, 1, value).shift(12, 1, 2, cached).shift(12, 1, 1, free).shift(12, 1, 0, linked)
	x.load(13, 1, value).shift(13, 1, 0, free)
	x.wantFaults(t, "all kinds in a move", fault(api.FaultFree, 12, 2), fault(api.FaultShift, 12, 2), fault(api.FaultHazard, 12, 1), fault(api.FaultShift, 12, 0),
		fault(api.FaultFree, 13, 2), fault(api.FaultShift, 13, 0))
}
