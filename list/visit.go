package list

import (
	"reclaim/api"
	"reclaim/hazard"
	"reclaim/machine"
)

// visit is what the calls share: each finds its key, does at that place what it is for, and leaves.
type visit struct {
	*Finding
	stage   place
	leaving *Leaving
	late    int // a point that is told with the end alone
}

func visitOf(h *hazard.Hazards, thread int, root int, key int) visit {
	return visit{Finding: Find(h, thread, root, key), stage: findKey, late: none}
}

// Ready has nothing to do ahead of an access. A call that has no way to the list finds nothing there.
func (v *visit) Ready(d *machine.Desk) bool {
	if v.stage == findKey && v.Finding.Ready(d) {
		d.Answer(api.Answer{Kind: api.AnswerNo})
		v.stage = over
	}
	return v.stage == over
}

// anew finds the key's place again, when another thread was there first.
func (v *visit) anew(stage place) {
	v.again()
	v.stage = stage
}

// leave goes on with the part Leave. What the call answers stays unsaid till it has ended.
func (v *visit) leave(d *machine.Desk, kind api.AnswerKind) {
	d.Answer(api.Answer{Kind: kind})
	v.leaving = Leave(v.on.Hazards, v.thread)
	v.stage = clearNames
	v.left(d, v.leaving.Ready(d))
}

// left ends the call with the part Leave.
func (v *visit) left(d *machine.Desk, ended bool) {
	if !ended {
		return
	}
	if v.late != none {
		d.Point(v.late)
	}
	v.stage = over
}
