package table

import (
	"reclaim/api"
	"reclaim/base"
	"reclaim/list"
	"reclaim/machine"
	"reclaim/word"
)

// visit is what the calls share that answer a key's value: each finds its key in its bucket, does there
// what it is for, and leaves.
type visit struct {
	*list.Finding
	on      base.Base
	thread  int
	key     int
	stage   place
	leaving *list.Leaving
}

func visitOf(b base.Base, thread int, key int) visit {
	v := visit{on: b, thread: thread, key: key}
	v.search(findKey)
	return v
}

// search goes on with a part Find, from the first link of the key's bucket on.
func (v *visit) search(stage place) {
	v.Finding = list.Find(v.on.Hazards, v.thread, rootOf(v.on, v.key), v.key)
	v.stage = stage
}

// Ready has nothing to do ahead of an access. A call that has no way to its bucket finds nothing there.
func (v *visit) Ready(d *machine.Desk) bool {
	if v.stage == findKey && v.Finding.Ready(d) {
		d.Answer(api.Answer{Kind: api.AnswerNo})
		v.stage = over
	}
	return v.stage == over
}

// answering are the calls whose answer is a key's value: one that is only seen, or one that is taken out.
type answering interface {
	*getting | *removing
	Found() (bool, int, int)
	present(d *machine.Desk, point int)
	leave(d *machine.Desk, a api.Answer)
}

// found goes on, if the part Find has ended, with what the call's kind of answer asks for; a key that
// isn't there has none for either.
func found[C answering](d *machine.Desk, c C, ended bool) {
	if !ended {
		return
	}
	there, _, point := c.Found()
	if there {
		c.present(d, point)
		return
	}
	d.Point(point)
	c.leave(d, api.Answer{Kind: api.AnswerNo})
}

// slot is the one that the part Find ended at.
func (v *visit) slot() int {
	_, slot, _ := v.Found()
	return slot
}

// see loads the data of the slot that the part Find ended at, which a hazard of the part still names.
func (v *visit) see(d *machine.Desk) api.Answer {
	data := d.Load(v.on.Addr(api.RegionData, v.slot()))
	return api.Answer{Kind: api.AnswerValue, Value: word.Value(data)}
}

// leave goes on with the part Leave. What the call answers stays unsaid till it has ended.
func (v *visit) leave(d *machine.Desk, a api.Answer) {
	d.Answer(a)
	v.leaving = list.Leave(v.on.Hazards, v.thread)
	v.stage = clearNames
	v.left(v.leaving.Ready(d))
}

// left ends the call with the part Leave.
func (v *visit) left(ended bool) {
	if ended {
		v.stage = over
	}
}
