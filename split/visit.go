package split

import (
	"reclaim/api"
	"reclaim/list"
	"reclaim/machine"
	"reclaim/word"
)

// visit is what the calls share: each finds its key in the stretch of its bucket, does there what it is for,
// and leaves.
type visit struct {
	planting
	key  int
	late int // a point that is told with the end alone
}

func (g *ground) visit(thread int, key int) visit {
	return visit{planting: planting{walk: walk{ground: g, thread: thread}}, key: key, late: none}
}

// enter loads how many buckets are in use, and seeks the root of the key's.
func (v *visit) enter(d *machine.Desk, rooted func(d *machine.Desk)) {
	size := word.Value(d.Load(v.sizeAddr()))
	v.seek(d, v.key%size, rooted)
}

// keyPlace is the key's place.
func (v *visit) keyPlace() int {
	place, _ := Place(v.key)
	return place
}

// see loads the data of the slot that the part Find ended at, which a hazard of the part still names.
func (v *visit) see(d *machine.Desk) api.Answer {
	data := d.Load(v.dataAddr(v.slot()))
	return api.Answer{Kind: api.AnswerValue, Value: word.Value(data)}
}

// leave goes on with the part Leave. What the call answers stays unsaid till it has ended.
func (v *visit) leave(d *machine.Desk, a api.Answer) {
	d.Answer(a)
	v.Through(d, list.Leave(v.Hazards, v.thread), v.left)
}

func (v *visit) left(d *machine.Desk) {
	if v.late != none {
		d.Point(v.late)
	}
	v.Next = nil
}

func only(kind api.AnswerKind) api.Answer {
	return api.Answer{Kind: kind}
}
