package epoch

import (
	"reclaim/api"
	"reclaim/course"
	"reclaim/machine"
	"reclaim/word"
)

// advancing is the part that moves the epoch on, unless a thread is pinned in another one.
type advancing struct {
	course.Course
	*realm
	epoch  int // as it was loaded
	thread int // whose local word is looked at next
	moved  bool
}

func (r *realm) advance() *advancing {
	p := &advancing{realm: r}
	p.Next = p.look
	return p
}

func (p *advancing) look(d *machine.Desk) {
	p.epoch = p.loadEpoch(d)
	p.Next = p.loadLocal
}

func (p *advancing) loadLocal(d *machine.Desk) {
	local := d.Load(p.localAddr(p.thread))
	p.thread++
	switch {
	case local != 0 && local != pinWord(p.epoch):
		p.Next = nil
	case p.thread == len(p.pinned):
		p.Next = p.swapEpoch
	}
}

func (p *advancing) swapEpoch(d *machine.Desk) {
	p.moved = d.Swap(p.epochAddr(), word.Number(p.epoch), word.Number(p.epoch+1))
	p.Next = nil
}

func (p *advancing) answer() api.AnswerKind {
	if p.moved {
		return api.AnswerYes
	}
	return api.AnswerNo
}
