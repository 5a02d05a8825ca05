package locks_test

import (
	"testing"

	"reclaim/api"
)

// The chapter's example 1, access by access.
func TestExampleOne(t *testing.T) {
	g := gateOf(t, locksOf(2, api.LockTicket))
	g.tells(t, acquire(0), done, 1, load(0, 1, 0), swap(0, 1, 0, 1), load(0, 2, 0))
	g.make(t, acquire(1))
	g.goes(t, load(1, 1, 1), swap(1, 1, 1, 2))
	point := g.now()
	g.goes(t, load(1, 2, 0), load(1, 2, 0))
	g.pending(t, 1, point)
	g.tells(t, touch(0), value(0), none, load(0, 0, 0), store(0, 0, 1))
	g.tells(t, release(0), done, none, store(0, 2, 1))
	g.goes(t, load(1, 2, 1))
	g.ended(t, 1, done, point)
	g.wantWords(t, 1, 2, 1)
	g.wantHolds(t)
	g.wantStays(t, api.Stay{From: 3, To: 12}, api.Stay{Thread: 1, From: 14, To: none})
}

// The chapter's example 2.
func TestExampleTwo(t *testing.T) {
	g := gateOf(t, locksOf(2, api.LockNode))
	g.tells(t, acquire(0), done, 2, store(0, 2, 0), load(0, 1, 0), swap(0, 1, 0, 1))
	g.make(t, acquire(1))
	g.goes(t, store(1, 4, 0), load(1, 1, 1), swap(1, 1, 1, 2))
	point := g.now()
	g.goes(t, store(1, 5, 1))
	g.make(t, release(0))
	g.goes(t, load(0, 2, 0), fails(0, 1, 1, 0, 2), load(0, 2, 0))
	g.goes(t, store(1, 2, 2))
	g.goes(t, load(0, 2, 2), store(0, 5, 0))
	g.ended(t, 0, done, none)
	g.pending(t, 1, point)
	g.goes(t, load(1, 5, 0))
	g.ended(t, 1, done, point)
	g.wantHolds(t)
}

// The chapter's example 3: one thread needs no access, two go up one level.
func TestExampleThree(t *testing.T) {
	g := gateOf(t, locksOf(1, api.LockFilter))
	g.make(t, acquire(0))
	g.pending(t, 0, none)
	g.steps(t, 0, 1)
	g.ended(t, 0, done, 1)
	if r := g.m.Run(); len(r.Trace) != 0 {
		t.Errorf("accesses: %+v", r.Trace)
	}
	g = gateOf(t, locksOf(2, api.LockFilter))
	g.tells(t, acquire(0), done, 2, store(0, 1, 1), store(0, 3, 0), load(0, 2, 0))
	g.wantHolds(t)
}

// The chapter's example 4: two shares, and an acquire that spins until both have unshared.
func TestExampleFour(t *testing.T) {
	g := gateOf(t, locksOf(3, api.LockShared))
	g.tells(t, share(0), done, 1, load(0, 1, 0), swap(0, 1, 0, 1))
	g.tells(t, share(1), done, 1, load(1, 1, 1), swap(1, 1, 1, 2))
	g.make(t, acquire(2))
	g.goes(t, fails(2, 1, 0, -1, 2), fails(2, 1, 0, -1, 2))
	g.tells(t, unshare(0), done, none, load(0, 1, 2), swap(0, 1, 2, 1))
	g.goes(t, fails(2, 1, 0, -1, 1))
	g.pending(t, 2, none)
	g.tells(t, unshare(1), done, none, load(1, 1, 1), swap(1, 1, 1, 0))
	g.goes(t, swap(2, 1, 0, -1))
	g.ended(t, 2, done, g.now())
	g.wantWords(t, 0, -1)
	g.wantHolds(t)
}
