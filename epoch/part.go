package epoch

import (
	"reclaim/api"
	"reclaim/machine"
)

// part is a piece of calls: Advance or Collect.
type part interface {
	machine.Task
	// answer is what a call that is this part alone answers, when the part has ended.
	answer() api.AnswerKind
}

// alone is a call that is one part.
type alone struct {
	part
}

func (a alone) Ready(d *machine.Desk) bool {
	return a.tell(d, a.part.Ready(d))
}

func (a alone) Step(d *machine.Desk) bool {
	return a.tell(d, a.part.Step(d))
}

func (a alone) tell(d *machine.Desk, ended bool) bool {
	if ended {
		d.Answer(api.Answer{Kind: a.answer()})
	}
	return ended
}
