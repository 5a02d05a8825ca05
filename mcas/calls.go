package mcas

import (
	"reclaim/api"
	"reclaim/machine"
)

// swapping is a call of OpMulti: it stores which swap its descriptor stands for, and helps that one as anybody
// else does who meets it.
type swapping struct {
	*store
	me    int
	d     int
	which uint64
}

func (s *swapping) step(c *call, d *machine.Desk) {
	d.Store(s.number(s.d), s.which)
	c.begin(s.helpKnown(s.me, s.d, s.which))
}

// resume ends the call. The descriptor was decided by whoever came first, which may be long ago.
func (s *swapping) resume(c *call, d *machine.Desk, told any) {
	answer := api.AnswerNo
	if told == succeeded {
		answer = api.AnswerYes
	}
	d.Point(s.decided[s.d])
	d.Answer(api.Answer{Kind: answer})
	c.end(d, nil)
}

// reading is a call of OpMultiRead: it loads the cell till it sees a value, and clears away what is in its way.
type reading struct {
	*store
	me   int
	cell int
}

func (r *reading) step(c *call, d *machine.Desk) {
	switch met := thingOf(d.Load(r.cell)).(type) {
	case value:
		d.Point(d.Now())
		d.Answer(api.Answer{Kind: api.AnswerValue, Value: int(met)})
		c.end(d, nil)
	case mark:
		c.begin(r.settle(met, r.cell))
	case hold:
		c.begin(r.help(r.me, int(met)))
	}
}

// resume has nothing to do: the same load comes next.
func (r *reading) resume(*call, *machine.Desk, any) {}
