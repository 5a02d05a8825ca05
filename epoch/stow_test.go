package epoch_test

import (
	"testing"

	"reclaim/api"
)

// A stow onto a stack that has something: the slot's link is what was on top.
func TestStowOnTop(t *testing.T) {
	c := example()
	y := yardOf(t, c)
	y.calls(t, done, pin(1), stow(1, 7))
	y.tells(t, api.Move{Thread: 1, Op: api.OpStow, Arg: -8, Data: 99}, story{done, 6, []api.Access{
		load(1, 0, head(1, 1)), load(1, 12, link(2)), swap(1, 0, head(1, 1), head(2, 2)),
		store(1, 15, ^uint64(7)), load(1, 2, link(0)), store(1, 21, link(0)), swap(1, 2, link(0), link(1)),
	}, []api.Shift{
		shift(2, 1, 1, api.StateFree, api.StateOwned), shift(6, 1, 1, api.StateOwned, api.StateLinked),
	}})
	y.wantStack(t, -8, 7)
}

// A stow that finds no slot sees so by one access, which is its point, and leaves the stack as it was.
func TestStowFull(t *testing.T) {
	c := example()
	y := yardOf(t, c)
	y.calls(t, done, pin(0), stow(0, 1), stow(0, 2), stow(0, 3))
	for range 2 {
		y.tells(t, stow(0, 4), story{full, 0, []api.Access{load(0, 0, head(3, -1))}, nil})
	}
	y.wantStack(t, 3, 2, 1)
	y.calls(t, value(3), draw(0))
	y.tells(t, stow(0, 4), story{full, 0, []api.Access{load(0, 0, head(3, -1))}, nil})
}

// A stow whose swap of Top fails loads Top again, once for each time, and stores the link anew.
func TestStowSwapFails(t *testing.T) {
	c := configOf(2, 9, 0, 4)
	y := yardOf(t, c)
	y.calls(t, done, pin(0), pin(1), stow(1, 1))
	y.make(t, stow(0, 5))
	y.goes(t, load(0, 0, head(1, 1)), load(0, spareAt(c, 1), link(2)), swap(0, 0, head(1, 1), head(2, 2)))
	y.goes(t, store(0, valueAt(c, 1), 5), load(0, 2, link(0)), store(0, linkAt(c, 1), link(0)))
	y.calls(t, done, stow(1, 2))
	y.goes(t, fails(0, 2, link(0), link(1), link(2)), load(0, 2, link(2)), store(0, linkAt(c, 1), link(2)))
	y.calls(t, value(2), draw(1))
	y.goes(t, fails(0, 2, link(2), link(1), link(0)), load(0, 2, link(0)))
	y.calls(t, value(1), draw(1))
	y.goes(t, store(0, linkAt(c, 1), link(0)), fails(0, 2, link(0), link(1), 0))
	y.goes(t, load(0, 2, 0), store(0, linkAt(c, 1), 0), swap(0, 2, 0, link(1)))
	y.ended(t, 0, done, y.now())
	y.wantStack(t, 5)
}

// A stow's part that takes the slot goes round for itself, and may come to no slot by that.
func TestStowTakeFails(t *testing.T) {
	c := configOf(2, 9, 0, 2)
	y := yardOf(t, c)
	y.calls(t, done, pin(0), pin(1))
	y.make(t, stow(0, 5))
	y.goes(t, load(0, 0, head(0, 0)), load(0, spareAt(c, 0), link(1)))
	y.calls(t, done, stow(1, 1))
	y.goes(t, fails(0, 0, head(0, 0), head(1, 1), head(1, 1)), load(0, 0, head(1, 1)))
	y.calls(t, done, stow(1, 2))
	y.goes(t, load(0, spareAt(c, 1), 0), fails(0, 0, head(1, 1), head(2, -1), head(2, -1)), load(0, 0, head(2, -1)))
	y.ended(t, 0, full, y.now())
	y.wantStack(t, 2, 1)
}

// A slot out of the cache costs no access.
func TestStowOutOfTheCache(t *testing.T) {
	c := configOf(1, 9, 2, 2)
	y := yardOf(t, c)
	y.calls(t, done, pin(0), stow(0, 1), stow(0, 2))
	y.calls(t, value(2), draw(0))
	y.calls(t, value(1), draw(0))
	y.calls(t, done, unpin(0))
	y.calls(t, yes, advance(0), advance(0))
	y.calls(t, done, collect(0), pin(0))
	y.tells(t, stow(0, 3), story{done, 3, []api.Access{
		store(0, valueAt(c, 0), 3), load(0, 2, 0), store(0, linkAt(c, 0), 0), swap(0, 2, 0, link(0)),
	}, []api.Shift{
		shift(0, 0, 0, api.StateCached, api.StateOwned), shift(3, 0, 0, api.StateOwned, api.StateLinked),
	}})
	y.tells(t, stow(0, 4), story{done, 3, []api.Access{
		store(0, valueAt(c, 1), 4), load(0, 2, link(0)), store(0, linkAt(c, 1), link(0)), swap(0, 2, link(0), link(1)),
	}, []api.Shift{
		shift(0, 0, 1, api.StateCached, api.StateOwned), shift(3, 0, 1, api.StateOwned, api.StateLinked),
	}})
}

// Each int is a value, and is drawn as it was stowed.
func TestValuesOfAllSizes(t *testing.T) {
	values := []int{0, 1, -1, 1 << 31, -1 << 31, 1<<32 + 1, 1<<63 - 1, -1 << 63}
	c := configOf(1, 100, 0, len(values))
	y := yardOf(t, c)
	y.calls(t, done, pin(0))
	for _, v := range values {
		y.calls(t, done, stow(0, v))
	}
	for i := range values {
		y.calls(t, value(values[len(values)-1-i]), draw(0))
	}
	y.calls(t, empty, draw(0))
}
