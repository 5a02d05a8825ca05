package list

import (
	"reclaim/api"
	"reclaim/machine"
)

// containing is a call that tells whether a key is in a list.
type containing struct {
	visit
}

// Step makes an access.
func (c *containing) Step(d *machine.Desk) bool {
	if c.Ready(d) {
		return true
	}
	switch c.stage {
	case findKey:
		if c.Finding.Step(d) {
			c.found(d)
		}
	case clearNames:
		c.left(d, c.leaving.Step(d))
	}
	return c.stage == over
}

func (c *containing) found(d *machine.Desk) {
	kind := api.AnswerNo
	if c.there {
		kind = api.AnswerYes
	}
	d.Point(c.point)
	c.leave(d, kind)
}
