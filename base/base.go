// Package base has what the objects whose calls go by hazards share: what their calls stand on,
// which threads may begin one, and how a script of them is run.
package base

import (
	"reclaim/api"
	"reclaim/arena"
	"reclaim/chain"
	"reclaim/hazard"
	"reclaim/machine"
	"reclaim/word"
)

// Base is the hazards, and the arena below them, that an object's calls stand on. What the object
// holds stands in the memory alone.
type Base struct {
	Hazards *hazard.Hazards
	Arena   *arena.Arena
}

// On is the base over hazards, and true; false, if hazard.New did not make them, or over no arena.
func On(h *hazard.Hazards) (Base, bool) {
	a := h.Arena()
	if a == nil {
		return Base{}, false
	}
	return Base{Hazards: h, Arena: a}, true
}

// Holding makes a maker that refuses a thread that holds no record.
func (b Base) Holding(begin machine.Maker) machine.Maker {
	return func(thread int, mv api.Move) machine.Task {
		if b.Hazards.Record(thread) == chain.None {
			return nil
		}
		return begin(thread, mv)
	}
}

// Addr is the address of a region's word.
func (b Base) Addr(r api.Region, i int) int {
	return chain.Addr(b.Arena.Config(), api.Place{Region: r, I: i})
}

// Slot is the slot that a word names; chain.None, if it is no plain link to one that there is.
func (b Base) Slot(w uint64) int {
	return chain.Slot(b.Arena.Config(), w)
}

// TellHere makes this move the call's point, and tells an answer that has no value.
func TellHere(d *machine.Desk, kind api.AnswerKind) {
	d.Point(d.Now())
	d.Answer(api.Answer{Kind: kind})
}

// Play runs a script of a kit's calls and those of hazard, over a new arena of which so many slots
// are used.
func Play(c api.Config, used int, moves []api.Move, kit func(h *hazard.Hazards) machine.Kit) (api.Run, api.Errno) {
	a, e := arena.New(c, used)
	if e != api.OK {
		return api.Run{}, e
	}
	if len(moves) > api.MaxMoves {
		return api.Run{}, api.ErrLong
	}
	h := hazard.New(a)
	words, _ := word.First(c, used)
	m, _ := machine.New(c.Threads, words, machine.Join(h.Kit(), kit(h)))
	for _, mv := range moves {
		m.Move(mv)
	}
	return m.Run(), api.OK
}
