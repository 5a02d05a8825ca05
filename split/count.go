package split

import (
	"reclaim/course"
	"reclaim/machine"
	"reclaim/word"
)

// counting is the part Count: it keeps the number of keys, and doubles the buckets when there are too many
// keys for them.
type counting struct {
	course.Course
	*ground
	by    int // 1 or -1
	count int // as it was loaded
	size  int
}

func (g *ground) counted(by int) *counting {
	c := &counting{ground: g, by: by}
	c.Next = c.loadCount
	return c
}

func (c *counting) loadCount(d *machine.Desk) {
	c.count = word.Value(d.Load(c.countAddr()))
	c.Next = c.swapCount
}

func (c *counting) swapCount(d *machine.Desk) {
	switch {
	case !d.Swap(c.countAddr(), word.Number(c.count), word.Number(c.count+c.by)):
		c.Next = c.loadCount
	case c.by > 0:
		c.Next = c.loadSize
	default:
		c.Next = nil
	}
}

func (c *counting) loadSize(d *machine.Desk) {
	c.size = word.Value(d.Load(c.sizeAddr()))
	c.Next = nil
	if c.count+1 > c.table.Load*c.size && 2*c.size <= c.table.Config.Buckets {
		c.Next = c.double
	}
}

// double swaps the size. Where another thread has done it already it stays as that one has left it.
func (c *counting) double(d *machine.Desk) {
	d.Swap(c.sizeAddr(), word.Number(c.size), word.Number(2*c.size))
	c.Next = nil
}
