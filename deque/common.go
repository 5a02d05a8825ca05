package deque

import (
	"reclaim/api"
	"reclaim/machine"
	"reclaim/word"
)

// owner is the thread that alone pushes and takes.
const owner = 0

// Addresses. The cells of the ring come last.
const (
	topAddr    = 0
	bottomAddr = 1
	cellAddr   = 2
)

// size is how many words the memory has.
func size(d api.Deque) int {
	return cellAddr + d.Room
}

// cellOf is the address of the cell of the value with that number. Numbers go on round the ring.
func cellOf(room int, number int) int {
	return cellAddr + number%room
}

// common is what the calls of one machine share beside its memory.
type common struct {
	room     int
	lowering *lowering // nil: no take is on its way, or it has not put bottom down yet
}

// lowering is that the owner's take has put bottom down, so that a value is out of the deque for whoever
// looks at bottom from that move on.
type lowering struct {
	move   int
	number int // the value's
}

func commonOf(d api.Deque) *common {
	return &common{room: d.Room}
}

// kit are the three calls.
func (s *common) kit() machine.Kit {
	return machine.Kit{
		api.OpDequePush: owners(func(mv api.Move) machine.Task { return s.push(mv.Arg) }),
		api.OpDequeTake: owners(func(api.Move) machine.Task { return s.take() }),
		api.OpSteal:     func(int, api.Move) machine.Task { return s.steal() },
	}
}

// owners makes a maker that refuses all threads but the owner.
func owners(begin func(mv api.Move) machine.Task) machine.Maker {
	return func(thread int, mv api.Move) machine.Task {
		if thread != owner {
			return nil
		}
		return begin(mv)
	}
}

// load, store and raiseTop are a step's access.

func load(d *machine.Desk, addr int) int {
	return word.Value(d.Load(addr))
}

func store(d *machine.Desk, addr int, number int) {
	d.Store(addr, word.Number(number))
}

// raiseTop takes the value with that number out at the top, and tells whether it was still there. Of all
// that try it with a number just one succeeds, since top never comes back to it.
func raiseTop(d *machine.Desk, number int) bool {
	return d.Swap(topAddr, word.Number(number), word.Number(number+1))
}

func valueAnswer(v int) api.Answer {
	return api.Answer{Kind: api.AnswerValue, Value: v}
}
