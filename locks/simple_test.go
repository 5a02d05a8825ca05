package locks_test

import (
	"testing"

	"reclaim/api"
)

// LockFlag: one swap, one store, again and again.
func TestFlagAlone(t *testing.T) {
	g := gateOf(t, locksOf(1, api.LockFlag))
	for i := range 3 {
		g.tells(t, acquire(0), done, 0, swap(0, 1, 0, 1))
		g.wantWords(t, i, 1)
		g.tells(t, touch(0), value(i), none, load(0, 0, i), store(0, 0, i+1))
		g.tells(t, release(0), done, none, store(0, 1, 0))
		g.wantWords(t, i+1, 0)
	}
	g.wantHolds(t)
}

// LockFlag: who finds the flag up swaps again till it is down; who comes first gets it.
func TestFlagSpins(t *testing.T) {
	g := gateOf(t, locksOf(3, api.LockFlag))
	g.make(t, acquire(1), acquire(0), acquire(2))
	g.goes(t, swap(0, 1, 0, 1))
	g.ended(t, 0, done, g.now())
	g.goes(t, fails(1, 1, 0, 1, 1), fails(1, 1, 0, 1, 1), fails(2, 1, 0, 1, 1), fails(1, 1, 0, 1, 1))
	g.pending(t, 1, none)
	g.pending(t, 2, none)
	g.tells(t, release(0), done, none, store(0, 1, 0))
	g.goes(t, swap(2, 1, 0, 1))
	g.ended(t, 2, done, g.now())
	g.goes(t, fails(1, 1, 0, 1, 1))
	g.make(t, acquire(0))
	g.goes(t, fails(0, 1, 0, 1, 1))
	g.tells(t, touch(2), value(0), none, load(2, 0, 0), store(2, 0, 1))
	g.make(t, release(2))
	g.goes(t, fails(1, 1, 0, 1, 1), store(2, 1, 0), swap(1, 1, 0, 1), fails(0, 1, 0, 1, 1))
	g.wantHolds(t)
}

// LockTicket: the tickets of one thread go on.
func TestTicketAlone(t *testing.T) {
	g := gateOf(t, locksOf(1, api.LockTicket))
	for i := range 4 {
		g.tells(t, acquire(0), done, 1, load(0, 1, i), swap(0, 1, i, i+1), load(0, 2, i))
		g.wantWords(t, 0, i+1, i)
		g.tells(t, release(0), done, none, store(0, 2, i+1))
		g.wantWords(t, 0, i+1, i+1)
	}
	g.wantHolds(t)
}

// LockTicket: a swap that fails leads to the load ahead of it, and tells no point.
func TestTicketSwapFails(t *testing.T) {
	g := gateOf(t, locksOf(3, api.LockTicket))
	g.make(t, acquire(0), acquire(1), acquire(2))
	g.goes(t, load(0, 1, 0), load(1, 1, 0), load(2, 1, 0))
	g.goes(t, swap(1, 1, 0, 1))
	first := g.now()
	g.goes(t, fails(0, 1, 0, 1, 1))
	g.pending(t, 0, none)
	g.goes(t, load(0, 1, 1), fails(2, 1, 0, 1, 1), load(2, 1, 1), swap(2, 1, 1, 2))
	second := g.now()
	g.goes(t, fails(0, 1, 1, 2, 2), load(0, 1, 2), swap(0, 1, 2, 3))
	third := g.now()
	g.goes(t, load(0, 2, 0), load(2, 2, 0), load(1, 2, 0))
	g.ended(t, 1, done, first)
	g.goes(t, load(0, 2, 0), load(2, 2, 0))
	g.tells(t, release(1), done, none, store(1, 2, 1))
	g.goes(t, load(0, 2, 1), load(0, 2, 1))
	g.pending(t, 0, third)
	g.goes(t, load(2, 2, 1))
	g.ended(t, 2, done, second)
	g.tells(t, release(2), done, none, store(2, 2, 2))
	g.goes(t, load(0, 2, 2))
	g.ended(t, 0, done, third)
	g.tells(t, release(0), done, none, store(0, 2, 3))
	g.tells(t, acquire(0), done, 1, load(0, 1, 3), swap(0, 1, 3, 4), load(0, 2, 3))
	g.wantHolds(t)
}

// LockShared alone: from 0 to -1 and back, as a flag.
func TestSharedAlone(t *testing.T) {
	g := gateOf(t, locksOf(2, api.LockShared))
	for i := range 3 {
		g.tells(t, acquire(i%2), done, 0, swap(i%2, 1, 0, -1))
		g.tells(t, touch(i%2), value(i), none, load(i%2, 0, i), store(i%2, 0, i+1))
		g.tells(t, release(i%2), done, none, store(i%2, 1, 0))
	}
	g.wantWords(t, 3, 0)
	g.wantHolds(t)
}

// LockShared: a share while one is alone inside loads till it is out; it is not counted before.
func TestShareWaits(t *testing.T) {
	g := gateOf(t, locksOf(3, api.LockShared))
	g.calls(t, acquire(0))
	g.make(t, share(1), share(2))
	g.goes(t, load(1, 1, -1), load(1, 1, -1), load(2, 1, -1))
	g.pending(t, 1, none)
	g.wantWords(t, 0, -1)
	g.tells(t, touch(0), value(0), none, load(0, 0, 0), store(0, 0, 1))
	g.tells(t, release(0), done, none, store(0, 1, 0))
	g.goes(t, load(1, 1, 0), load(2, 1, 0), swap(1, 1, 0, 1))
	g.ended(t, 1, done, g.now())
	g.goes(t, fails(2, 1, 0, 1, 1))
	g.pending(t, 2, none)
	g.goes(t, load(2, 1, 1), swap(2, 1, 1, 2))
	g.ended(t, 2, done, g.now())
	g.wantWords(t, 1, 2)
	g.wantHolds(t)
	g.wantStays(t,
		api.Stay{Thread: 0, From: 1, To: 10},
		api.Stay{Thread: 1, Shared: true, From: 14, To: none}, api.Stay{Thread: 2, Shared: true, From: 17, To: none})
}

// LockShared: a share whose swap fails since one got in alone meanwhile waits like any other.
func TestShareSwapFails(t *testing.T) {
	g := gateOf(t, locksOf(2, api.LockShared))
	g.make(t, share(1))
	g.goes(t, load(1, 1, 0))
	g.tells(t, acquire(0), done, 0, swap(0, 1, 0, -1))
	g.goes(t, fails(1, 1, 0, 1, -1), load(1, 1, -1), load(1, 1, -1))
	g.pending(t, 1, none)
	g.tells(t, release(0), done, none, store(0, 1, 0))
	g.goes(t, load(1, 1, 0), swap(1, 1, 0, 1))
	g.ended(t, 1, done, g.now())
	g.make(t, acquire(0))
	g.goes(t, fails(0, 1, 0, -1, 1))
	g.tells(t, unshare(1), done, none, load(1, 1, 1), swap(1, 1, 1, 0))
	g.goes(t, swap(0, 1, 0, -1))
	g.wantHolds(t)
}

// LockShared: an unshare whose swap fails loads again; so do shares beside it. It tells no point.
func TestUnshareSwapFails(t *testing.T) {
	g := gateOf(t, locksOf(4, api.LockShared))
	g.calls(t, share(0), share(1), share(2))
	g.make(t, unshare(0), unshare(1), share(3))
	g.goes(t, load(0, 1, 3), load(1, 1, 3), load(3, 1, 3))
	g.goes(t, swap(3, 1, 3, 4))
	g.ended(t, 3, done, g.now())
	g.goes(t, fails(0, 1, 3, 2, 4), fails(1, 1, 3, 2, 4))
	g.pending(t, 0, none)
	g.goes(t, load(0, 1, 4), load(1, 1, 4), swap(1, 1, 4, 3))
	g.ended(t, 1, done, none)
	g.goes(t, fails(0, 1, 4, 3, 3), load(0, 1, 3), swap(0, 1, 3, 2))
	g.ended(t, 0, done, none)
	g.wantWords(t, 0, 2)
	g.wantHolds(t)
}

// LockShared: all threads share at one time, and one gets in alone when all are out.
func TestAllShare(t *testing.T) {
	g := gateOf(t, locksOf(api.MaxThreads, api.LockShared))
	for thread := range api.MaxThreads {
		g.tells(t, share(thread), done, 1, load(thread, 1, thread), swap(thread, 1, thread, thread+1))
	}
	for thread := range api.MaxThreads {
		if left := api.MaxThreads - thread; left > 0 {
			g.tells(t, unshare(thread), done, none, load(thread, 1, left), swap(thread, 1, left, left-1))
		}
		if thread == 0 {
			g.make(t, acquire(0))
		}
		if thread < api.MaxThreads-1 {
			g.goes(t, fails(0, 1, 0, -1, api.MaxThreads-1-thread))
		}
	}
	g.goes(t, swap(0, 1, 0, -1))
	g.wantHolds(t)
}

// OpTouch: the count goes on from thread to thread, in all kinds; a touch of two steps can be left between.
func TestTouch(t *testing.T) {
	eachKind(t, 3, func(t *testing.T, c api.Locks) {
		g := gateOf(t, c)
		count := 0
		for i := range 12 {
			thread := i * i % 3
			g.calls(t, acquire(thread))
			for range i % 4 {
				g.tells(t, touch(thread), value(count), none, load(thread, 0, count), store(thread, 0, count+1))
				count++
			}
			g.make(t, touch(thread))
			g.goes(t, load(thread, 0, count))
			g.refuses(t, step((thread+1)%3), release(thread), touch(thread))
			g.pending(t, thread, none)
			g.goes(t, store(thread, 0, count+1))
			g.ended(t, thread, value(count), none)
			count++
			g.calls(t, release(thread))
			g.wantHolds(t)
		}
	})
}
