package epoch

import (
	"reclaim/course"
	"reclaim/machine"
)

// pinning is a call that pins its thread in the epoch.
type pinning struct {
	course.Course
	*realm
	thread int
	epoch  int // as it was loaded last
}

func (r *realm) pin(thread int) *pinning {
	c := &pinning{realm: r, thread: thread}
	c.Next = c.look
	return c
}

func (c *pinning) look(d *machine.Desk) {
	c.epoch = c.loadEpoch(d)
	c.Next = c.storeLocal
}

func (c *pinning) storeLocal(d *machine.Desk) {
	d.Store(c.localAddr(c.thread), pinWord(c.epoch))
	c.Next = c.lookAgain
}

// lookAgain asks whether the epoch was still the same when the local word told it: only from then on
// it can't move on by more than one.
func (c *pinning) lookAgain(d *machine.Desk) {
	epoch := c.loadEpoch(d)
	if epoch != c.epoch {
		c.epoch = epoch
		c.Next = c.storeLocal
		return
	}
	c.pinned[c.thread] = true
	c.Next = nil
}

// unpinning is a call after which its thread is not pinned.
type unpinning struct {
	course.Course
	*realm
	thread int
}

func (r *realm) unpin(thread int) *unpinning {
	c := &unpinning{realm: r, thread: thread}
	c.Next = c.clearLocal
	return c
}

func (c *unpinning) clearLocal(d *machine.Desk) {
	d.Store(c.localAddr(c.thread), 0)
	c.pinned[c.thread] = false
	c.Next = nil
}
