package epoch_test

import (
	"testing"

	"reclaim/api"
)

// gives is the accesses by which a slot goes ahead of the free list, whose tag and first slot are these.
func gives(c api.Config, thread, slot, tag, first int) []api.Access {
	return []api.Access{
		load(thread, freeAt, head(tag, first)),
		store(thread, spareAt(c, slot), link(first)),
		swap(thread, freeAt, head(tag, first), head(tag+1, slot)),
	}
}

// filled is a yard in which thread 0, which is not pinned, has slots 0 to count - 1 in its bag, the last
// one first, with the epochs 0, and all others are free; the tag of the free list is count.
func filled(t *testing.T, c api.Config, count int) *yard {
	t.Helper()
	y := yardOf(t, c)
	y.calls(t, done, pin(0))
	for i := range count {
		y.calls(t, done, stow(0, i))
	}
	for i := range count {
		y.calls(t, value(count-1-i), draw(0))
	}
	y.calls(t, done, unpin(0))
	return y
}

// A collect of an empty bag, and one of a bag of which nothing is due, loads the epoch alone.
func TestCollectNothing(t *testing.T) {
	c := configOf(2, 9, 0, 3)
	y := yardOf(t, c)
	y.tells(t, collect(0), story{done, -1, []api.Access{load(0, epochAt(c), 0)}, nil})
	y.calls(t, done, pin(0))
	y.tells(t, collect(0), story{done, -1, []api.Access{load(0, epochAt(c), 0)}, nil})
	y = filled(t, c, 2)
	y.tells(t, collect(0), story{done, -1, []api.Access{load(0, epochAt(c), 0)}, nil})
	y.calls(t, yes, advance(0))
	y.tells(t, collect(0), story{done, -1, []api.Access{load(0, epochAt(c), 1)}, nil})
	y.calls(t, yes, advance(0))
	y.tells(t, collect(1), story{done, -1, []api.Access{load(1, epochAt(c), 2)}, nil})
	y.wantFree(t, 2)
}

// A collect gives all that is due in the bag's order; pinned or not.
func TestCollectAll(t *testing.T) {
	for _, pinned := range []bool{false, true} {
		c := configOf(2, 9, 0, 4)
		y := filled(t, c, 3)
		y.calls(t, yes, advance(1), advance(1))
		if pinned {
			y.calls(t, done, pin(0))
		}
		seen := []api.Access{load(0, epochAt(c), 2)}
		seen = append(seen, gives(c, 0, 2, 3, 3)...)
		seen = append(seen, gives(c, 0, 1, 4, 2)...)
		seen = append(seen, gives(c, 0, 0, 5, 1)...)
		y.tells(t, collect(0), story{done, -1, seen, []api.Shift{
			shift(3, 0, 2, api.StateRetired, api.StateFree),
			shift(6, 0, 1, api.StateRetired, api.StateFree),
			shift(9, 0, 0, api.StateRetired, api.StateFree),
		}})
		y.wantFree(t, 0, 1, 2, 3)
		y.tells(t, collect(0), story{done, -1, []api.Access{load(0, epochAt(c), 2)}, nil})
	}
}

// A collect gives what was put in two epochs ago or earlier, and leaves the rest.
func TestCollectSome(t *testing.T) {
	c := configOf(1, 9, 0, 4)
	y := yardOf(t, c)
	for epoch := range 4 {
		y.calls(t, done, pin(0), stow(0, epoch))
		y.calls(t, value(epoch), draw(0))
		y.calls(t, done, unpin(0))
		if epoch < 3 {
			y.calls(t, yes, advance(0))
		}
	}
	seen := append([]api.Access{load(0, epochAt(c), 3)}, gives(c, 0, 0, 4, -1)...)
	seen = append(seen, gives(c, 0, 1, 5, 0)...)
	y.tells(t, collect(0), story{done, -1, seen, []api.Shift{
		shift(3, 0, 0, api.StateRetired, api.StateFree), shift(6, 0, 1, api.StateRetired, api.StateFree),
	}})
	y.wantFree(t, 1, 0)
	y.calls(t, yes, advance(0))
	y.tells(t, collect(0), story{done, -1, append([]api.Access{load(0, epochAt(c), 4)}, gives(c, 0, 2, 6, 1)...),
		[]api.Shift{shift(3, 0, 2, api.StateRetired, api.StateFree)}})
	y.calls(t, yes, advance(0), advance(0), advance(0))
	y.tells(t, collect(0), story{done, -1, append([]api.Access{load(0, epochAt(c), 7)}, gives(c, 0, 3, 7, 2)...),
		[]api.Shift{shift(3, 0, 3, api.StateRetired, api.StateFree)}})
}

// Slots that go into the cache cost no access, one behind the other; what has no room goes to the free list.
func TestCollectIntoTheCache(t *testing.T) {
	c := configOf(1, 9, 2, 3)
	y := filled(t, c, 3)
	y.calls(t, yes, advance(0), advance(0))
	y.tells(t, collect(0), story{done, -1, append([]api.Access{load(0, epochAt(c), 2)}, gives(c, 0, 0, 3, -1)...),
		[]api.Shift{
			shift(0, 0, 2, api.StateRetired, api.StateCached), shift(0, 0, 1, api.StateRetired, api.StateCached),
			shift(3, 0, 0, api.StateRetired, api.StateFree),
		}})
	c = configOf(1, 9, 3, 3)
	y = filled(t, c, 3)
	y.calls(t, yes, advance(0), advance(0))
	y.tells(t, collect(0), story{done, -1, []api.Access{load(0, epochAt(c), 2)}, []api.Shift{
		shift(0, 0, 2, api.StateRetired, api.StateCached), shift(0, 0, 1, api.StateRetired, api.StateCached),
		shift(0, 0, 0, api.StateRetired, api.StateCached),
	}})
}

// What is due hangs on the epoch that was loaded, also if it moves on meanwhile.
func TestCollectByTheEpochThatWasLoaded(t *testing.T) {
	c := configOf(2, 9, 0, 2)
	y := filled(t, c, 1)
	y.calls(t, yes, advance(0))
	y.calls(t, done, pin(0), stow(0, 7))
	y.calls(t, value(7), draw(0))
	y.calls(t, done, unpin(0))
	y.calls(t, yes, advance(0))
	y.make(t, collect(0))
	y.goes(t, load(0, epochAt(c), 2))
	y.calls(t, yes, advance(1), advance(1))
	y.goes(t, gives(c, 0, 0, 2, -1)...)
	y.ended(t, 0, done, -1)
	y.wantFree(t, 0)
	y.calls(t, done, collect(0))
	y.wantFree(t, 1, 0)
}

// A give that another thread comes ahead of goes round for itself.
func TestCollectGiveFails(t *testing.T) {
	c := configOf(2, 9, 0, 3)
	y := filled(t, c, 1)
	y.calls(t, yes, advance(0), advance(0))
	y.calls(t, done, pin(1))
	y.make(t, collect(0))
	y.goes(t, load(0, epochAt(c), 2), load(0, 0, head(1, 1)), store(0, spareAt(c, 0), link(1)))
	y.calls(t, done, stow(1, 9))
	y.goes(t, fails(0, 0, head(1, 1), head(2, 0), head(2, 2)))
	y.goes(t, gives(c, 0, 0, 2, 2)...)
	y.ended(t, 0, done, -1)
	y.wantFree(t, 0, 2)
}

// A collect gives its own thread's bag alone.
func TestCollectOwnBag(t *testing.T) {
	c := configOf(3, 9, 0, 3)
	y := yardOf(t, c)
	y.calls(t, done, pin(0), pin(1), stow(0, 1), stow(0, 2))
	y.calls(t, value(2), draw(1))
	y.calls(t, value(1), draw(0))
	y.calls(t, done, unpin(0), unpin(1))
	y.calls(t, yes, advance(2), advance(2))
	y.calls(t, done, collect(2))
	y.wantFree(t, 2)
	y.calls(t, done, collect(1))
	y.wantFree(t, 1, 2)
	y.calls(t, done, collect(0))
	y.wantFree(t, 0, 1, 2)
}
