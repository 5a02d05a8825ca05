package arena

import (
	"reclaim/api"
	"reclaim/machine"
	"reclaim/word"
)

// Kit are the arena's calls.
func (a *Arena) Kit() machine.Kit {
	if !a.made() {
		return machine.Kit{}
	}
	return machine.Kit{
		api.OpTake: func(thread int, _ api.Move) machine.Task {
			return &takeCall{a.Take(thread)}
		},
		api.OpGive: func(thread int, mv api.Move) machine.Task {
			if !a.owns(thread, mv.Arg) {
				return nil
			}
			return a.Give(thread, mv.Arg)
		},
		api.OpFlush: func(thread int, _ api.Move) machine.Task {
			return a.Flush(thread)
		},
	}
}

// owns tells whether a slot is the thread's own.
func (a *Arena) owns(thread int, slot int) bool {
	state, holder, e := a.State(slot)
	return e == api.OK && state == api.StateOwned && holder == thread
}

// takeCall is a take that answers what it has taken. (Gives and flushes answer that they are done,
// as all calls do that tell nothing.)
type takeCall struct {
	*Taking
}

func (c *takeCall) Ready(d *machine.Desk) bool {
	return c.tell(d, c.Taking.Ready(d))
}

func (c *takeCall) Step(d *machine.Desk) bool {
	return c.tell(d, c.Taking.Step(d))
}

func (c *takeCall) tell(d *machine.Desk, ended bool) bool {
	switch {
	case !ended:
	case c.Slot() == none:
		d.Answer(api.Answer{Kind: api.AnswerFull})
	default:
		d.Answer(api.Answer{Kind: api.AnswerValue, Value: c.Slot()})
	}
	return ended
}

// Play runs a script of the arena's calls.
func Play(c api.Config, moves []api.Move) (api.Run, api.Errno) {
	a, e := New(c, 0)
	if e != api.OK {
		return api.Run{}, e
	}
	if len(moves) > api.MaxMoves {
		return api.Run{}, api.ErrLong
	}
	words, _ := word.First(c, 0)
	m, _ := machine.New(c.Threads, words, a.Kit())
	for _, mv := range moves {
		m.Move(mv)
	}
	return m.Run(), api.OK
}
