package epoch_test

import (
	"testing"

	"reclaim/api"
)

// An advance looks at all threads from 0 on, the own one too, whether they are pinned in this epoch or not
// at all, and moves the epoch on.
func TestAdvanceLooksAtAll(t *testing.T) {
	for threads := 1; threads <= api.MaxThreads; threads++ {
		c := configOf(threads, 1, 0, 1)
		y := yardOf(t, c)
		y.calls(t, yes, advance(0), advance(0))
		seen := []api.Access{load(threads-1, epochAt(c), 2)}
		for thread := range threads {
			local := uint64(0)
			if thread%2 == 0 {
				y.calls(t, done, pin(thread))
				local = 3
			}
			seen = append(seen, load(threads-1, localAt(c, thread), local))
		}
		seen = append(seen, swap(threads-1, epochAt(c), 2, 3))
		y.tells(t, advance(threads-1), story{yes, -1, seen, nil})
	}
}

// An advance is stopped by each of the threads, its own too, if it is pinned in another epoch; it has
// looked at none behind that one by then.
func TestAdvanceIsStopped(t *testing.T) {
	c := configOf(5, 1, 0, 1)
	for pinned := range c.Threads {
		for thread := range c.Threads {
			y := yardOf(t, c)
			y.calls(t, done, pin(pinned))
			y.calls(t, yes, advance(thread))
			seen := []api.Access{load(thread, epochAt(c), 1)}
			for other := range pinned {
				seen = append(seen, load(thread, localAt(c, other), 0))
			}
			seen = append(seen, load(thread, localAt(c, pinned), 1))
			for range 2 {
				y.tells(t, advance(thread), story{no, -1, seen, nil})
			}
			if y.word(epochAt(c)) != 1 {
				t.Errorf("the epoch is %d", y.word(epochAt(c)))
			}
			y.calls(t, done, unpin(pinned))
			y.calls(t, yes, advance(thread))
		}
	}
}

// The first of several that are in its way stops it; one that is pinned in this epoch does not.
func TestAdvanceIsStoppedByTheFirst(t *testing.T) {
	c := configOf(4, 1, 0, 1)
	y := yardOf(t, c)
	y.calls(t, done, pin(1), pin(3))
	y.calls(t, yes, advance(2))
	y.calls(t, done, pin(0))
	y.tells(t, advance(2), story{no, -1, []api.Access{
		load(2, epochAt(c), 1), load(2, localAt(c, 0), 2), load(2, localAt(c, 1), 1),
	}, nil})
	y.calls(t, done, unpin(1))
	y.tells(t, advance(2), story{no, -1, []api.Access{
		load(2, epochAt(c), 1), load(2, localAt(c, 0), 2), load(2, localAt(c, 1), 0), load(2, localAt(c, 2), 0),
		load(2, localAt(c, 3), 1),
	}, nil})
}

// An advance whose swap fails, since another one has come ahead of it, answers No and doesn't go round.
func TestAdvanceSwapFails(t *testing.T) {
	c := example()
	y := yardOf(t, c)
	y.make(t, advance(0), advance(1))
	y.goes(t, load(0, 23, 0), load(1, 23, 0), load(0, 24, 0), load(1, 24, 0), load(0, 25, 0), load(1, 25, 0))
	y.goes(t, swap(1, 23, 0, 1))
	y.ended(t, 1, yes, -1)
	y.goes(t, fails(0, 23, 0, 1, 1))
	y.ended(t, 0, no, -1)
}

// An advance that the epoch has left behind is stopped by who is pinned in the new one, and by nobody
// that it has looked at already.
func TestAdvanceLate(t *testing.T) {
	c := example()
	y := yardOf(t, c)
	y.make(t, advance(0))
	y.goes(t, load(0, 23, 0))
	y.calls(t, yes, advance(1))
	y.calls(t, done, pin(1))
	y.goes(t, load(0, 24, 0), load(0, 25, 2))
	y.ended(t, 0, no, -1)
	y.calls(t, done, unpin(1))
	y.make(t, advance(0))
	y.goes(t, load(0, 23, 1), load(0, 24, 0), load(0, 25, 0))
	y.calls(t, done, pin(1))
	y.goes(t, swap(0, 23, 1, 2))
	y.ended(t, 0, yes, -1)
	y.calls(t, no, advance(0))
}
