package mcas

import "reclaim/machine"

// frame is a part that is on its way, or the call itself.
type frame interface {
	// step makes the frame's next access, with the local work behind it.
	step(c *call, d *machine.Desk)
	// resume goes on behind the end of the part that the frame has begun, in the local work behind that part's
	// last access. What is told is what the part came to: a thing that it met in a cell, a status, or nil.
	resume(c *call, d *machine.Desk, told any)
}

// place is where a frame goes on: just ahead of an access. Each kind of frame has its own.
type place int

// call is a call on its way: the frames that are, each begun by the one ahead of it.
type call struct {
	frames []frame
}

// callOf is a call that begins with a frame.
func callOf(first frame) *call {
	return &call{frames: []frame{first}}
}

// Ready has nothing to do: each call makes an access.
func (c *call) Ready(*machine.Desk) bool {
	return false
}

// Step makes an access: the last frame's.
func (c *call) Step(d *machine.Desk) bool {
	c.last().step(c, d)
	return c.ended()
}

func (c *call) ended() bool {
	return len(c.frames) == 0
}

func (c *call) last() frame {
	return c.frames[len(c.frames)-1]
}

// begin lets a part of the last frame go on in that frame's place.
func (c *call) begin(part frame) {
	c.frames = append(c.frames, part)
}

// end cuts off the last frame, and tells the one that began it what it came to.
func (c *call) end(d *machine.Desk, told any) {
	c.frames = c.frames[:len(c.frames)-1]
	if !c.ended() {
		c.last().resume(c, d, told)
	}
}
