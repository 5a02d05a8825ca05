package machine

import (
	"maps"

	"reclaim/api"
)

// Task is a call on its way, or a part of one. Ready does what can be done ahead of an access;
// Step makes one access, and does what can be done ahead of the next one. Each tells whether
// the task has ended.
type Task interface {
	Ready(d *Desk) bool
	Step(d *Desk) bool
}

// Maker begins a call of a thread; nil: it is refused.
type Maker func(thread int, mv api.Move) Task

// Kit is the calls that a machine knows.
type Kit map[api.Op]Maker

// Join puts kits together: of an op that stands in several the last one's.
func Join(kits ...Kit) Kit {
	all := Kit{}
	for _, kit := range kits {
		maps.Copy(all, kit)
	}
	return all
}

// begin asks the kit for the task of a call; nil, if the kit doesn't have its op, or refuses it. A
// maker may be anyone's: one that panics has answered nil.
func (k Kit) begin(mv api.Move) Task {
	defer func() { recover() }()
	maker := k[mv.Op]
	if maker == nil {
		return nil
	}
	return maker(mv.Thread, mv)
}

// work lets a task make one step, and tells whether it has ended. A task may be anyone's: one that
// panics has not told its end.
func work(task Task, first bool, d *Desk) bool {
	defer func() { recover() }()
	return first && task.Ready(d) || task.Step(d)
}
