package locks_test

import (
	"testing"

	"reclaim/api"
)

// LockFilter of one thread: no access, at either time; the release makes one.
func TestFilterOfOne(t *testing.T) {
	g := gateOf(t, locksOf(1, api.LockFilter))
	for i := range 3 {
		g.make(t, acquire(0), step(0))
		g.ended(t, 0, done, g.now())
		g.tells(t, touch(0), value(i), none, load(0, 0, i), store(0, 0, i+1))
		g.tells(t, release(0), done, none, store(0, 1, 0))
	}
	g.wantWords(t, 3, 0)
	g.wantHolds(t)
}

// LockFilter of two: the one that came first is the victim no more, the other one waits till it is below.
func TestFilterOfTwo(t *testing.T) {
	g := gateOf(t, locksOf(2, api.LockFilter))
	g.make(t, acquire(0), acquire(1))
	g.goes(t, store(0, 1, 1), store(1, 2, 1), store(0, 3, 0), store(1, 3, 1))
	g.goes(t, load(1, 1, 1), load(1, 3, 1), load(1, 1, 1), load(1, 3, 1))
	g.pending(t, 1, none)
	g.goes(t, load(0, 2, 1), load(0, 3, 1))
	g.ended(t, 0, done, g.now())
	g.goes(t, load(1, 1, 1), load(1, 3, 1))
	g.tells(t, release(0), done, none, store(0, 1, 0))
	g.goes(t, load(1, 1, 0))
	g.ended(t, 1, done, g.now())
	g.wantWords(t, 0, 0, 1, 1)
	// The victim changes while one waits: that is seen in the load of it, which is the last access then.
	g.make(t, acquire(0))
	g.goes(t, store(0, 1, 1), store(0, 3, 0), load(0, 2, 1), load(0, 3, 0), load(0, 2, 1))
	g.tells(t, release(1), done, none, store(1, 2, 0))
	g.make(t, acquire(1))
	g.goes(t, store(1, 2, 1), store(1, 3, 1), load(0, 3, 1))
	g.ended(t, 0, done, g.now())
	g.wantHolds(t)
}

// LockFilter of three alone: level by level, all others looked at, whoever it is.
func TestFilterOfThreeAlone(t *testing.T) {
	for i := range 6 {
		me := i % 3
		g := gateOf(t, locksOf(3, api.LockFilter))
		others := [][2]int{{1, 2}, {0, 2}, {0, 1}}[me]
		g.tells(t, acquire(me), done, 7,
			store(me, 1+me, 1), store(me, 4, me), load(me, 1+others[0], 0), load(me, 1+others[1], 0),
			store(me, 1+me, 2), store(me, 5, me), load(me, 1+others[0], 0), load(me, 1+others[1], 0))
		g.tells(t, release(me), done, none, store(me, 1+me, 0))
		g.wantHolds(t)
	}
}

// LockFilter of three: a victim that is another, levels that are below and that are not, and the way anew from
// the first thread on.
func TestFilterOfThree(t *testing.T) {
	g := gateOf(t, locksOf(3, api.LockFilter))
	g.make(t, acquire(0), acquire(1), acquire(2))
	g.goes(t, store(2, 3, 1), store(2, 4, 2), load(2, 1, 0))
	g.goes(t, store(1, 2, 1), load(2, 2, 1), load(2, 4, 2)) // the victim is itself: anew
	g.goes(t, load(2, 1, 0), load(2, 2, 1), store(1, 4, 1), load(2, 4, 1))
	g.goes(t, store(2, 3, 2), store(2, 5, 2)) // the victim was another: the next level, though thread 1 is not below
	g.goes(t, load(1, 1, 0), load(1, 3, 2), load(1, 4, 1), load(1, 1, 0))
	g.goes(t, load(2, 1, 0), load(2, 2, 1)) // thread 1 is below level 2
	g.ended(t, 2, done, g.now())
	g.goes(t, store(0, 1, 1), store(0, 4, 0), load(0, 2, 1), load(0, 4, 0), load(0, 2, 1))
	g.goes(t, load(1, 3, 2), load(1, 4, 0)) // thread 0 is the victim now
	g.goes(t, store(1, 2, 2), store(1, 5, 1), load(1, 1, 1), load(1, 3, 2), load(1, 5, 1), load(1, 1, 1))
	g.goes(t, load(0, 4, 0), load(0, 2, 2), load(0, 4, 0))
	g.pending(t, 0, none)
	g.pending(t, 1, none)
	g.tells(t, release(2), done, none, store(2, 3, 0))
	g.goes(t, load(1, 3, 0))
	g.ended(t, 1, done, g.now())
	g.goes(t, load(0, 2, 2), load(0, 4, 0), load(0, 2, 2))
	g.tells(t, release(1), done, none, store(1, 2, 0))
	g.goes(t, load(0, 4, 0), load(0, 2, 0), load(0, 3, 0))
	g.goes(t, store(0, 1, 2), store(0, 5, 0), load(0, 2, 0), load(0, 3, 0))
	g.ended(t, 0, done, g.now())
	g.wantHolds(t)
}

// LockFilter: one at a higher level keeps the victim of a lower one waiting; the last level is left by a victim
// that is another as well.
func TestFilterLastLevel(t *testing.T) {
	g := gateOf(t, locksOf(3, api.LockFilter))
	g.make(t, acquire(0), acquire(1))
	g.goes(t, store(0, 1, 1), store(0, 4, 0), load(0, 2, 0), load(0, 3, 0), store(0, 1, 2))
	g.goes(t, store(1, 2, 1), store(1, 4, 1), load(1, 1, 2), load(1, 4, 1), load(1, 1, 2))
	g.goes(t, store(0, 5, 0), load(0, 2, 1), load(0, 3, 0))
	g.ended(t, 0, done, g.now())
	g.make(t, acquire(2))
	g.goes(t, store(2, 3, 1), store(2, 4, 2), load(1, 4, 2), store(1, 2, 2), store(1, 5, 1), load(1, 1, 2), load(1, 5, 1))
	g.tells(t, release(0), done, none, store(0, 1, 0))
	g.goes(t, load(2, 1, 0), load(2, 2, 2), load(2, 4, 2), load(2, 1, 0), load(2, 2, 2))
	g.goes(t, load(1, 1, 0), load(1, 3, 1))
	g.ended(t, 1, done, g.now())
	g.make(t, acquire(0))
	g.goes(t, store(0, 1, 1), store(0, 4, 0), load(2, 4, 0), store(2, 3, 2), store(2, 5, 2), load(2, 1, 1), load(2, 2, 2), load(2, 5, 2))
	g.tells(t, release(1), done, none, store(1, 2, 0))
	g.make(t, acquire(1))
	g.goes(t, store(1, 2, 1), store(1, 4, 1))
	g.goes(t, load(0, 2, 1), load(0, 4, 1), store(0, 1, 2), store(0, 5, 0))
	g.goes(t, load(2, 1, 2), load(2, 5, 0))
	g.ended(t, 2, done, g.now())
	g.goes(t, load(0, 2, 1), load(0, 3, 2), load(0, 5, 0), load(0, 2, 1))
	g.wantHolds(t)
}

// LockFilter of the most threads, alone: fifteen levels, at each of which fifteen others are looked at.
func TestFilterOfMany(t *testing.T) {
	for _, me := range []int{0, 6, api.MaxThreads - 1} {
		g := gateOf(t, locksOf(api.MaxThreads, api.LockFilter))
		var accesses []api.Access
		for level := 1; level < api.MaxThreads; level++ {
			accesses = append(accesses, store(me, 1+me, level), store(me, 16+level, me))
			for other := range api.MaxThreads {
				if other != me {
					accesses = append(accesses, load(me, 1+other, 0))
				}
			}
		}
		g.tells(t, acquire(me), done, 15*17-1, accesses...)
		g.tells(t, release(me), done, none, store(me, 1+me, 0))
	}
}

// LockBakery of one: nobody else's number is looked at, nobody is waited for; the point is the end.
func TestBakeryOfOne(t *testing.T) {
	g := gateOf(t, locksOf(1, api.LockBakery))
	for i := range 3 {
		g.tells(t, acquire(0), done, 2, store(0, 1, 1), store(0, 2, 1), store(0, 1, 0))
		g.tells(t, touch(0), value(i), none, load(0, 0, i), store(0, 0, i+1))
		g.tells(t, release(0), done, none, store(0, 2, 0))
	}
	g.wantWords(t, 3, 0, 0)
	g.wantHolds(t)
}

// LockBakery of two, one behind the other: the second one's number is one more, and it waits at the first one's.
func TestBakeryOfTwo(t *testing.T) {
	g := gateOf(t, locksOf(2, api.LockBakery))
	g.tells(t, acquire(0), done, 3, store(0, 1, 1), load(0, 4, 0), store(0, 2, 1), store(0, 1, 0), load(0, 3, 0), load(0, 4, 0))
	g.make(t, acquire(1))
	g.goes(t, store(1, 3, 1), load(1, 2, 1), store(1, 4, 2), store(1, 3, 0))
	point := g.now()
	g.goes(t, load(1, 1, 0), load(1, 2, 1), load(1, 2, 1))
	g.pending(t, 1, point)
	g.tells(t, release(0), done, none, store(0, 2, 0))
	// Thread 0 comes again ahead of the look at its number: it goes behind now, and waits.
	g.make(t, acquire(0))
	g.goes(t, store(0, 1, 1), load(0, 4, 2), store(0, 2, 3), store(0, 1, 0))
	later := g.now()
	g.goes(t, load(0, 3, 0), load(0, 4, 2), load(1, 2, 3))
	g.ended(t, 1, done, point)
	g.tells(t, release(1), done, none, store(1, 4, 0))
	g.goes(t, load(0, 4, 0))
	g.ended(t, 0, done, later)
	g.wantHolds(t)
}

// LockBakery: with equal numbers the lower thread goes first, whoever stored its number first.
func TestBakeryEqualNumbers(t *testing.T) {
	g := gateOf(t, locksOf(2, api.LockBakery))
	g.make(t, acquire(0), acquire(1))
	g.goes(t, store(0, 1, 1), store(1, 3, 1), load(0, 4, 0), load(1, 2, 0), store(1, 4, 1), store(0, 2, 1), store(1, 3, 0))
	point := g.now()
	g.goes(t, load(1, 1, 1), load(1, 1, 1)) // thread 0 is choosing
	g.goes(t, store(0, 1, 0))
	later := g.now()
	g.goes(t, load(1, 1, 0), load(1, 2, 1), load(1, 2, 1))
	g.goes(t, load(0, 3, 0), load(0, 4, 1))
	g.ended(t, 0, done, later)
	g.goes(t, load(1, 2, 1))
	g.pending(t, 1, point)
	g.tells(t, release(0), done, none, store(0, 2, 0))
	g.goes(t, load(1, 2, 0)) // a number that is 0
	g.ended(t, 1, done, point)
	g.wantHolds(t)
}

// LockBakery: one that is choosing is waited for, also if it goes behind by its number; then its number alone is
// looked at again and again, not whether it chooses.
func TestBakeryWaitsForTheChoice(t *testing.T) {
	g := gateOf(t, locksOf(2, api.LockBakery))
	g.make(t, acquire(1), acquire(0))
	g.goes(t, store(1, 3, 1), load(1, 2, 0), store(1, 4, 1), store(1, 3, 0))
	point := g.now()
	g.goes(t, store(0, 1, 1), load(1, 1, 1), load(0, 4, 1), load(1, 1, 1), store(0, 2, 2), load(1, 1, 1), store(0, 1, 0))
	later := g.now()
	g.goes(t, load(1, 1, 0), load(1, 2, 2))
	g.ended(t, 1, done, point)
	g.goes(t, load(0, 3, 0), load(0, 4, 1))
	g.tells(t, release(1), done, none, store(1, 4, 0))
	g.make(t, acquire(1))
	g.goes(t, store(1, 3, 1), load(0, 4, 0)) // it chooses again, which isn't looked at
	g.ended(t, 0, done, later)
	g.wantHolds(t)
}

// LockBakery of three: the greatest of all numbers is what counts, in whatever order they come; each other thread
// is waited for in its turn.
func TestBakeryOfThree(t *testing.T) {
	g := gateOf(t, locksOf(3, api.LockBakery))
	g.tells(t, acquire(2), done, 4,
		store(2, 5, 1), load(2, 2, 0), load(2, 4, 0), store(2, 6, 1), store(2, 5, 0),
		load(2, 1, 0), load(2, 2, 0), load(2, 3, 0), load(2, 4, 0))
	g.make(t, acquire(0))
	g.goes(t, store(0, 1, 1), load(0, 4, 0), load(0, 6, 1), store(0, 2, 2), store(0, 1, 0))
	first := g.now()
	g.make(t, acquire(1))
	g.goes(t, store(1, 3, 1), load(1, 2, 2), load(1, 6, 1), store(1, 4, 3), store(1, 3, 0))
	second := g.now()
	g.goes(t, load(0, 3, 0), load(0, 4, 3), load(0, 5, 0), load(0, 6, 1), load(0, 6, 1))
	g.goes(t, load(1, 1, 0), load(1, 2, 2), load(1, 2, 2))
	g.tells(t, release(2), done, none, store(2, 6, 0))
	g.make(t, acquire(2))
	g.goes(t, store(2, 5, 1), load(2, 2, 2), load(2, 4, 3), store(2, 6, 4), store(2, 5, 0))
	third := g.now()
	g.goes(t, load(2, 1, 0), load(2, 2, 2), load(0, 6, 4))
	g.ended(t, 0, done, first)
	g.tells(t, release(0), done, none, store(0, 2, 0))
	g.goes(t, load(2, 2, 0), load(2, 3, 0), load(2, 4, 3), load(2, 4, 3))
	g.goes(t, load(1, 2, 0), load(1, 5, 0), load(1, 6, 4))
	g.ended(t, 1, done, second)
	g.tells(t, release(1), done, none, store(1, 4, 0))
	g.goes(t, load(2, 4, 0))
	g.ended(t, 2, done, third)
	g.wantWords(t, 0, 0, 0, 0, 0, 0, 4)
	g.wantHolds(t)
}

// LockBakery of the most threads: each chooses one more than all that stand in line, the last one goes last.
func TestBakeryOfMany(t *testing.T) {
	g := gateOf(t, locksOf(api.MaxThreads, api.LockBakery))
	for thread := range api.MaxThreads {
		me := api.MaxThreads - 1 - thread
		g.make(t, acquire(me))
		accesses := []api.Access{store(me, 1+2*me, 1)}
		for other := range api.MaxThreads {
			if other > me {
				accesses = append(accesses, load(me, 2+2*other, api.MaxThreads-other))
			} else if other < me {
				accesses = append(accesses, load(me, 2+2*other, 0))
			}
		}
		g.goes(t, append(accesses, store(me, 2+2*me, thread+1), store(me, 1+2*me, 0))...)
	}
	for thread := range api.MaxThreads {
		me := api.MaxThreads - 1 - thread
		if thread > 0 {
			for range 40 {
				g.steps(t, me, 1)
			}
			g.pending(t, me, g.last(me).Point)
			g.calls(t, release(me+1))
		}
		g.finish(t, me)
		g.wantHolds(t)
	}
}
