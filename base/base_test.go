package base_test

import (
	"math"
	"slices"
	"testing"

	"reclaim/api"
	"reclaim/arena"
	"reclaim/base"
	"reclaim/chain"
	"reclaim/hazard"
	"reclaim/machine"
	"reclaim/word"
)

var config = api.Config{Threads: 2, Records: 1, Hazards: 3, Retire: 1, Cache: 0, Slots: 3, Buckets: 2}

// opTell is a call of the tests: it loads the word Top, and tells Empty there.
const opTell api.Op = 999

type telling struct{ addr int }

func (c telling) Ready(*machine.Desk) bool { return false }

func (c telling) Step(d *machine.Desk) bool {
	d.Load(c.addr)
	base.TellHere(d, api.AnswerEmpty)
	return true
}

// kitOf is a kit of one call, and calls of hazard that it must not hide.
func kitOf(h *hazard.Hazards) machine.Kit {
	b, there := base.On(h)
	if !there {
		return nil
	}
	return machine.Kit{opTell: b.Holding(func(int, api.Move) machine.Task {
		return telling{b.Addr(api.RegionTop, 0)}
	})}
}

// There is a base over hazards that New made over an arena, and over no others.
func TestOn(t *testing.T) {
	for what, h := range map[string]*hazard.Hazards{
		"nil": nil, "zero": {}, "over a nil arena": hazard.New(nil), "over the zero arena": hazard.New(&arena.Arena{}),
	} {
		if b, there := base.On(h); there || b.Hazards != nil || b.Arena != nil {
			t.Errorf("%s: there is a base", what)
		}
	}
	a, _ := arena.New(config, 0)
	h := hazard.New(a)
	if b, there := base.On(h); !there || b.Hazards != h || b.Arena != a {
		t.Error("there is no base")
	}
}

// Addresses and slots are those of the arena's configuration.
func TestAddrAndSlot(t *testing.T) {
	a, _ := arena.New(config, 0)
	b, _ := base.On(hazard.New(a))
	for _, p := range []api.Place{
		{Region: api.RegionTop}, {Region: api.RegionBucket, I: 1}, {Region: api.RegionLink, I: 2}, {Region: api.RegionValue, I: 0},
	} {
		want, _ := word.Addr(config, p)
		if got := b.Addr(p.Region, p.I); got != want {
			t.Errorf("Addr(%+v) = %d, not %d", p, got, want)
		}
	}
	if got := b.Addr(api.RegionLink, 3); got != chain.None {
		t.Errorf("Addr of no slot = %d", got)
	}
	for w, want := range map[uint64]int{0: chain.None, 1: 0, 3: 2, 4: chain.None, 1<<32 + 1: chain.None, math.MaxUint64: chain.None} {
		if got := b.Slot(w); got != want {
			t.Errorf("Slot(%x) = %d, not %d", w, got, want)
		}
	}
}

// A script is run over the words and the arena of so many used slots, with hazard's calls; a call is
// refused to a thread that holds no record.
func TestPlay(t *testing.T) {
	moves := []api.Move{
		{Op: opTell}, {Op: api.OpStep}, {Op: api.OpRegister}, {Op: api.OpStep}, {Op: api.OpStep},
		{Thread: 1, Op: opTell}, {Op: opTell}, {Op: api.OpStep},
	}
	for used := range 2 {
		words, _ := word.First(config, used)
		r, e := base.Play(config, used, nil, kitOf)
		if e != api.OK || len(r.Calls) != 0 || !slices.Equal(r.Words, words) {
			t.Errorf("used %d: %+v, %d", used, r, e)
		}
		r, e = base.Play(config, used, moves, kitOf)
		want := api.Call{Op: opTell, Begin: 6, End: 7, Point: 7, Answer: api.Answer{Kind: api.AnswerEmpty}}
		if e != api.OK || len(r.Calls) != 2 || r.Calls[0].Op != api.OpRegister || r.Calls[1] != want {
			t.Errorf("used %d: %+v, %d", used, r, e)
		}
		linked := -1
		base.Play(config, used, nil, func(h *hazard.Hazards) machine.Kit {
			linked = h.Arena().Count(api.StateLinked)
			return nil
		})
		if linked != used {
			t.Errorf("%d slots are linked, not %d", linked, used)
		}
	}
}

// A configuration that may not be comes ahead of too many moves.
func TestPlayRefuses(t *testing.T) {
	long := make([]api.Move, api.MaxMoves+1)
	if r, e := base.Play(api.Config{}, 0, long, kitOf); e != api.ErrConfig || r.Words != nil {
		t.Errorf("%+v, %d", r, e)
	}
	if r, e := base.Play(config, 0, long, kitOf); e != api.ErrLong || r.Words != nil {
		t.Errorf("%+v, %d", r, e)
	}
	if _, e := base.Play(config, 0, long[1:], kitOf); e != api.OK {
		t.Error(e)
	}
}
