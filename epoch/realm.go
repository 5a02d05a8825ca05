package epoch

import (
	"reclaim/api"
	"reclaim/arena"
	"reclaim/chain"
	"reclaim/machine"
	"reclaim/word"
)

// realm is what the calls of one machine share beside its memory.
type realm struct {
	arena  *arena.Arena
	pinned []bool // of each thread
	bags   []bag  // of each thread
}

func realmOver(a *arena.Arena) *realm {
	threads := a.Config().Threads
	return &realm{arena: a, pinned: make([]bool, threads), bags: make([]bag, threads)}
}

// kit are the six calls.
func (r *realm) kit() machine.Kit {
	return machine.Kit{
		api.OpPin:     r.where(false, func(thread int, _ api.Move) machine.Task { return r.pin(thread) }),
		api.OpUnpin:   r.where(true, func(thread int, _ api.Move) machine.Task { return r.unpin(thread) }),
		api.OpStow:    r.where(true, func(thread int, mv api.Move) machine.Task { return r.stow(thread, mv.Arg) }),
		api.OpDraw:    r.where(true, func(thread int, _ api.Move) machine.Task { return r.draw(thread) }),
		api.OpAdvance: func(int, api.Move) machine.Task { return alone{r.advance()} },
		api.OpCollect: func(thread int, _ api.Move) machine.Task { return alone{r.collect(thread)} },
	}
}

// where makes a maker that refuses a thread, unless it is pinned or not, as is asked for.
func (r *realm) where(pinned bool, begin machine.Maker) machine.Maker {
	return func(thread int, mv api.Move) machine.Task {
		if r.pinned[thread] != pinned {
			return nil
		}
		return begin(thread, mv)
	}
}

// loadEpoch is a step's access.
func (r *realm) loadEpoch(d *machine.Desk) int {
	return word.Value(d.Load(r.epochAddr()))
}

// pinWord is the local word of a thread that is pinned in an epoch: one above it, so that it is told
// apart from that of a thread that is not pinned, which is 0.
func pinWord(epoch int) uint64 {
	return word.Number(epoch + 1)
}

func (r *realm) epochAddr() int {
	return r.localAddr(nobody)
}

func (r *realm) localAddr(thread int) int {
	addr, _ := Local(r.arena.Config(), thread)
	return addr
}

func (r *realm) topAddr() int {
	return r.addr(api.RegionTop, 0)
}

func (r *realm) valueAddr(slot int) int {
	return r.addr(api.RegionValue, slot)
}

func (r *realm) linkAddr(slot int) int {
	return r.addr(api.RegionLink, slot)
}

func (r *realm) addr(region api.Region, i int) int {
	return chain.Addr(r.arena.Config(), api.Place{Region: region, I: i})
}
