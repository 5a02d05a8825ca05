package table

import "reclaim/machine"

// getting is a call that tells a key's value.
type getting struct {
	visit
}

// Step makes an access.
func (c *getting) Step(d *machine.Desk) bool {
	if c.Ready(d) {
		return true
	}
	switch c.stage {
	case findKey:
		found(d, c, c.Finding.Step(d))
	case loadData:
		c.leave(d, c.see(d))
	case clearNames:
		c.left(c.leaving.Step(d))
	}
	return c.stage == over
}

// present goes on with the key's value. It is the one that the key had at the point: it changes no more
// while the slot is named.
func (c *getting) present(d *machine.Desk, point int) {
	d.Point(point)
	c.stage = loadData
}
