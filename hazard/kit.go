package hazard

import (
	"reclaim/api"
	"reclaim/arena"
	"reclaim/chain"
	"reclaim/machine"
	"reclaim/word"
)

// Kit are the calls on records, and those on the published cell.
func (h *Hazards) Kit() machine.Kit {
	if !h.made() {
		return machine.Kit{}
	}
	return machine.Kit{
		api.OpRegister: func(thread int, _ api.Move) machine.Task {
			// A thread that there isn't could hold no record, so that the one it took would be lost.
			if !h.hasThread(thread) || h.Record(thread) != none {
				return nil
			}
			return &call{h.register(thread).run}
		},
		api.OpUnregister: h.holding(func(thread int, _ api.Move) machine.Task {
			return &call{h.unregister(thread).run}
		}),
		api.OpPost: h.holding(func(thread int, mv api.Move) machine.Task {
			return &call{h.post(thread, mv.Arg).run}
		}),
		api.OpRead: h.naming(func(thread int, mv api.Move) machine.Task {
			return &call{h.read(thread, mv.Arg).run}
		}),
		api.OpClear: h.naming(func(thread int, mv api.Move) machine.Task {
			return &clearing{h.Addr(thread, mv.Arg)}
		}),
		api.OpScan: h.holding(func(thread int, _ api.Move) machine.Task {
			return h.Scan(thread)
		}),
	}
}

// holding makes a maker that refuses a thread that holds no record.
func (h *Hazards) holding(begin machine.Maker) machine.Maker {
	return func(thread int, mv api.Move) machine.Task {
		if h.Record(thread) == none {
			return nil
		}
		return begin(thread, mv)
	}
}

// naming makes a maker that refuses, too, what is no number of a hazard.
func (h *Hazards) naming(begin machine.Maker) machine.Maker {
	return func(thread int, mv api.Move) machine.Task {
		if h.Addr(thread, mv.Arg) == none {
			return nil
		}
		return begin(thread, mv)
	}
}

// clearing is a call that lets a hazard name nothing.
type clearing struct {
	hazard int // its address
}

func (c *clearing) Ready(*machine.Desk) bool { return false }

func (c *clearing) Step(d *machine.Desk) bool {
	d.Store(c.hazard, chain.Link(none))
	return true
}

// Play runs a script of these calls.
func Play(c api.Config, moves []api.Move) (api.Run, api.Errno) {
	a, e := arena.New(c, 0)
	if e != api.OK {
		return api.Run{}, e
	}
	if len(moves) > api.MaxMoves {
		return api.Run{}, api.ErrLong
	}
	words, _ := word.First(c, 0)
	m, _ := machine.New(c.Threads, words, New(a).Kit())
	for _, mv := range moves {
		m.Move(mv)
	}
	return m.Run(), api.OK
}
