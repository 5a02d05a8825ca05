package stack

import "reclaim/machine"

// course is how a call goes on: next is the method of the call that makes its next access, with the
// local work behind it, and puts there the one that comes after it; nil: the call has ended.
type course struct {
	ahead func(d *machine.Desk) // the local work ahead of the first access; nil: there is none left
	next  func(d *machine.Desk)
}

// Ready does the local work ahead of the first access.
func (c *course) Ready(d *machine.Desk) bool {
	if c.ahead != nil {
		c.ahead(d)
		c.ahead = nil
	}
	return c.next == nil
}

// Step makes an access.
func (c *course) Step(d *machine.Desk) bool {
	if c.next != nil {
		c.next(d)
	}
	return c.next == nil
}
