package epoch_test

import (
	"slices"
	"testing"

	"reclaim/api"
)

// taken is the shifts of a draw's slot, behind its third and its fifth access.
func taken(thread, slot int) []api.Shift {
	return []api.Shift{
		shift(2, thread, slot, api.StateLinked, api.StateDetached),
		shift(4, thread, slot, api.StateDetached, api.StateRetired),
	}
}

// A draw of the empty stack sees so by one access, which is its point.
func TestDrawEmpty(t *testing.T) {
	c := example()
	y := yardOf(t, c)
	y.calls(t, done, pin(1))
	for range 2 {
		y.tells(t, draw(1), story{empty, 0, []api.Access{load(1, 2, 0)}, nil})
	}
	y.calls(t, done, stow(1, 5))
	y.calls(t, value(5), draw(1))
	y.tells(t, draw(1), story{empty, 0, []api.Access{load(1, 2, 0)}, nil})
}

// A draw takes the top out, whatever is below it and whoever has stowed it.
func TestDrawTop(t *testing.T) {
	c := configOf(2, 9, 0, 3)
	y := yardOf(t, c)
	y.calls(t, done, pin(0), pin(1), stow(0, 4), stow(0, -5))
	y.tells(t, api.Move{Thread: 1, Op: api.OpDraw, Arg: 3, Data: 4}, story{value(-5), 2, []api.Access{
		load(1, 2, link(1)), load(1, linkAt(c, 1), link(0)), swap(1, 2, link(1), link(0)),
		load(1, valueAt(c, 1), ^uint64(4)), load(1, epochAt(c), 0),
	}, taken(1, 1)})
	y.wantStack(t, 4)
}

// A draw whose swap fails begins anew, with another top or with none.
func TestDrawSwapFails(t *testing.T) {
	c := configOf(2, 9, 0, 3)
	y := yardOf(t, c)
	y.calls(t, done, pin(0), pin(1), stow(1, 1))
	y.make(t, draw(0))
	y.goes(t, load(0, 2, link(0)), load(0, linkAt(c, 0), 0))
	y.calls(t, done, stow(1, 2))
	y.goes(t, fails(0, 2, link(0), 0, link(1)), load(0, 2, link(1)))
	y.calls(t, value(2), draw(1))
	y.goes(t, load(0, linkAt(c, 1), link(0)), fails(0, 2, link(1), link(0), link(0)), load(0, 2, link(0)), load(0, linkAt(c, 0), 0))
	y.goes(t, swap(0, 2, link(0), 0))
	point := y.now()
	y.goes(t, load(0, valueAt(c, 0), 1), load(0, epochAt(c), 0))
	y.ended(t, 0, value(1), point)

	y.calls(t, done, stow(0, 3))
	y.make(t, draw(0))
	y.goes(t, load(0, 2, link(2)), load(0, linkAt(c, 2), 0))
	y.calls(t, value(3), draw(1))
	y.goes(t, fails(0, 2, link(2), 0, 0), load(0, 2, 0))
	y.ended(t, 0, empty, y.now())
}

// A draw that is on its way behind its swap has its point already, and is the one that took the value.
func TestDrawOnItsWay(t *testing.T) {
	c := example()
	y := yardOf(t, c)
	y.calls(t, done, pin(0), stow(0, 5))
	y.make(t, draw(0))
	y.steps(t, 0, 3)
	point := y.now()
	for range 2 {
		if got := y.last(0); got.Point != point || got.End != -1 || got.Answer != (api.Answer{}) {
			t.Errorf("%+v, not the point %d alone", got, point)
		}
		y.wantStack(t)
		y.steps(t, 0, 1)
	}
	y.ended(t, 0, value(5), point)
}

// The draw that fills the bag to Retire advances and collects: here the epoch moves on, but nothing is due.
func TestDrawFillsTheBag(t *testing.T) {
	for retire := 1; retire <= 4; retire++ {
		c := configOf(2, retire, 0, 4)
		y := yardOf(t, c)
		y.calls(t, done, pin(0))
		for i := range retire {
			y.calls(t, done, stow(0, i))
		}
		for i := range retire - 1 {
			y.calls(t, value(retire-1-i), draw(0))
		}
		if y.word(epochAt(c)) != 0 {
			t.Fatalf("Retire %d: the epoch is %d", retire, y.word(epochAt(c)))
		}
		y.tells(t, draw(0), story{value(0), 2, []api.Access{
			load(0, 2, link(0)), load(0, linkAt(c, 0), 0), swap(0, 2, link(0), 0), load(0, valueAt(c, 0), 0),
			load(0, epochAt(c), 0),
			load(0, epochAt(c), 0), load(0, localAt(c, 0), 1), load(0, localAt(c, 1), 0), swap(0, epochAt(c), 0, 1),
			load(0, epochAt(c), 1),
		}, taken(0, 0)})
	}
}

// A bag that stays full advances and collects with every draw; here its own pin stops the advance.
func TestDrawBeyondRetire(t *testing.T) {
	c := configOf(2, 1, 0, 3)
	y := yardOf(t, c)
	y.calls(t, done, pin(0), stow(0, 1), stow(0, 2), stow(0, 3))
	y.calls(t, value(3), draw(0))
	for slot := 1; slot >= 0; slot-- {
		behind := link(slot - 1)
		y.tells(t, draw(0), story{value(slot + 1), 2, []api.Access{
			load(0, 2, link(slot)), load(0, linkAt(c, slot), behind), swap(0, 2, link(slot), behind),
			load(0, valueAt(c, slot), uint64(slot+1)), load(0, epochAt(c), 1),
			load(0, epochAt(c), 1), load(0, localAt(c, 0), 1),
			load(0, epochAt(c), 1),
		}, taken(0, slot)})
	}
}

// due is a yard in which thread 0 is pinned in epoch 2, its bag has slot 1 with the epoch 0, and slot 0 is
// on top with the value 6; the tag of the free list is 2, and its first slot 2.
func due(t *testing.T, c api.Config) *yard {
	t.Helper()
	y := yardOf(t, c)
	y.calls(t, done, pin(0), stow(0, 6), stow(0, 5))
	y.calls(t, value(5), draw(0))
	y.calls(t, done, unpin(0))
	y.calls(t, yes, advance(1), advance(1))
	y.calls(t, done, pin(0))
	return y
}

// drawsDue is the accesses of thread 0's draw in such a yard up to the one that puts slot 0 into the bag.
func drawsDue(c api.Config) []api.Access {
	return []api.Access{
		load(0, 2, link(0)), load(0, linkAt(c, 0), 0), swap(0, 2, link(0), 0), load(0, valueAt(c, 0), 6), load(0, epochAt(c), 2),
	}
}

// A draw that fills the bag gives back what is due, its own slot not among it.
func TestDrawCollects(t *testing.T) {
	c := configOf(2, 2, 0, 3)
	y := due(t, c)
	seen := append(drawsDue(c), load(0, epochAt(c), 2), load(0, localAt(c, 0), 3), load(0, localAt(c, 1), 0),
		swap(0, epochAt(c), 2, 3), load(0, epochAt(c), 3))
	seen = append(seen, gives(c, 0, 1, 2, 2)...)
	y.tells(t, draw(0), story{value(6), 2, seen,
		append(taken(0, 0), shift(12, 0, 1, api.StateRetired, api.StateFree))})

	c = configOf(2, 2, 1, 3)
	y = due(t, c)
	seen = append(drawsDue(c), load(0, epochAt(c), 2), load(0, localAt(c, 0), 3), load(0, localAt(c, 1), 0),
		swap(0, epochAt(c), 2, 3), load(0, epochAt(c), 3))
	y.tells(t, draw(0), story{value(6), 2, seen,
		append(taken(0, 0), shift(9, 0, 1, api.StateRetired, api.StateCached))})
}

// It does so too where its advance is stopped by each of the threads.
func TestDrawCollectsThoughTheAdvanceIsStopped(t *testing.T) {
	c := configOf(4, 2, 0, 3)
	for pinned := range c.Threads {
		y := due(t, c)
		if pinned > 0 {
			y.calls(t, done, unpin(0), pin(pinned))
		}
		y.calls(t, yes, advance(1))
		if pinned > 0 {
			y.calls(t, done, pin(0))
		}
		seen := drawsDue(c)
		seen[4].Saw = 3
		seen = append(seen, load(0, epochAt(c), 3))
		for thread := range pinned + 1 {
			local := uint64(0)
			if thread == 0 {
				local = 4
			}
			if thread == pinned {
				local = 3
			}
			seen = append(seen, load(0, localAt(c, thread), local))
		}
		seen = append(seen, load(0, epochAt(c), 3))
		free := len(seen) + 2
		seen = append(seen, gives(c, 0, 1, 2, 2)...)
		y.tells(t, draw(0), story{value(6), 2, seen,
			append(taken(0, 0), shift(free, 0, 1, api.StateRetired, api.StateFree))})
	}
}

// And where the advance's swap fails.
func TestDrawCollectsThoughTheSwapFails(t *testing.T) {
	c := configOf(2, 2, 0, 3)
	y := due(t, c)
	y.make(t, draw(0))
	y.goes(t, drawsDue(c)[:3]...)
	point := y.now()
	y.goes(t, drawsDue(c)[3:]...)
	y.goes(t, load(0, epochAt(c), 2), load(0, localAt(c, 0), 3), load(0, localAt(c, 1), 0))
	y.calls(t, yes, advance(1))
	y.goes(t, fails(0, epochAt(c), 2, 3, 3), load(0, epochAt(c), 3))
	y.goes(t, gives(c, 0, 1, 2, 2)...)
	y.ended(t, 0, value(6), point)
}

// The epoch beside a slot in the bag is the one that was read behind the swap of Top, not the one of the pin.
func TestDrawReadsTheEpoch(t *testing.T) {
	c := configOf(2, 9, 0, 1)
	y := yardOf(t, c)
	y.calls(t, done, pin(0), stow(0, 5))
	y.make(t, draw(0))
	y.steps(t, 0, 3)
	point := y.now()
	y.steps(t, 0, 1)
	y.calls(t, yes, advance(1))
	y.goes(t, load(0, epochAt(c), 1))
	y.ended(t, 0, value(5), point)
	y.calls(t, done, unpin(0))
	y.calls(t, yes, advance(1))
	y.calls(t, done, collect(0))
	y.wantFree(t)
	y.calls(t, yes, advance(1))
	y.calls(t, done, collect(0))
	y.wantFree(t, 0)
}

// A thread that stays pinned holds up all that is retired from then on, till nothing is left to stow into;
// from its unpin on two advances are enough.
func TestStaysPinned(t *testing.T) {
	c := configOf(3, 2, 0, 6)
	y := yardOf(t, c)
	y.calls(t, done, pin(2))
	for i := range c.Slots {
		thread := i % 2
		y.calls(t, done, pin(thread), stow(thread, i))
		y.calls(t, value(i), draw(thread))
		y.calls(t, done, unpin(thread))
		y.call(t, advance(thread))
		y.calls(t, done, collect(thread))
	}
	y.calls(t, done, pin(0))
	y.calls(t, full, stow(0, 99))
	y.calls(t, done, unpin(0))
	y.wantFree(t)
	if y.word(epochAt(c)) != 1 {
		t.Errorf("the epoch is %d", y.word(epochAt(c)))
	}
	y.calls(t, done, unpin(2))
	y.calls(t, yes, advance(0), advance(0))
	y.calls(t, done, collect(0), collect(1))
	got := freeOf(c, y.m.Run().Words)
	if slices.Sort(got); !slices.Equal(got, []int{0, 1, 2, 3, 4, 5}) {
		t.Errorf("the free list is %v", got)
	}
}
