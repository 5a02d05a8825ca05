package epoch

import (
	"reclaim/api"
	"reclaim/arena"
	"reclaim/course"
	"reclaim/machine"
)

// collecting is the part that gives back what is due of a thread's bag.
type collecting struct {
	course.Course
	*realm
	thread int
	epoch  int // as it was loaded
	giving *arena.Giving
}

func (r *realm) collect(thread int) *collecting {
	p := &collecting{realm: r, thread: thread}
	p.Next = p.look
	return p
}

func (p *collecting) look(d *machine.Desk) {
	p.epoch = p.loadEpoch(d)
	p.giveDue(d)
}

// giveDue goes on with the first slot that is due. One that goes into the cache costs no access, so
// the next one begins in the same step.
func (p *collecting) giveDue(d *machine.Desk) {
	b := &p.bags[p.thread]
	for place := b.due(p.epoch); place >= 0; place = b.due(p.epoch) {
		p.giving = p.arena.Give(p.thread, (*b)[place].slot)
		*b = b.without(place)
		if !p.giving.Ready(d) {
			p.Next = p.giveOn
			return
		}
	}
	p.Next = nil
}

func (p *collecting) giveOn(d *machine.Desk) {
	if p.giving.Step(d) {
		p.giveDue(d)
	}
}

func (p *collecting) answer() api.AnswerKind {
	return api.AnswerDone
}
