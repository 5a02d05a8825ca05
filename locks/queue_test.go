package locks_test

import (
	"testing"

	"reclaim/api"
)

// LockQueue of one thread, whose node changes each time: it goes on with the one at which it waited.
func TestQueueAlone(t *testing.T) {
	g := gateOf(t, locksOf(1, api.LockQueue))
	for i := range 6 {
		own, other := i%2, 1-i%2
		g.tells(t, acquire(0), done, 2, store(0, 2+own, 1), load(0, 1, other), swap(0, 1, other, own), load(0, 2+other, 0))
		g.tells(t, release(0), done, none, store(0, 2+own, 0))
	}
	g.wantWords(t, 0, 1, 0, 0)
	g.wantHolds(t)
}

// LockQueue over many acquires of several threads: nodes go from thread to thread.
func TestQueueNodes(t *testing.T) {
	for _, threads := range []int{1, 2, 3, 7, api.MaxThreads} {
		g := gateOf(t, locksOf(threads, api.LockQueue))
		nodes, tail := make([]int, threads), threads
		for thread := range nodes {
			nodes[thread] = thread
		}
		for i := range 60 {
			me := (i*i + i/7) % threads
			own := nodes[me]
			g.tells(t, acquire(me), done, 2, store(me, 2+own, 1), load(me, 1, tail), swap(me, 1, tail, own), load(me, 2+tail, 0))
			g.tells(t, touch(me), value(i), none, load(me, 0, i), store(me, 0, i+1))
			g.tells(t, release(me), done, none, store(me, 2+own, 0))
			nodes[me], tail = tail, own
		}
		g.wantHolds(t)
	}
}

// LockQueue: a swap that fails leads to the load of tail, not to the store; each waits at the node ahead.
func TestQueueSwapFails(t *testing.T) {
	g := gateOf(t, locksOf(3, api.LockQueue))
	g.make(t, acquire(0), acquire(1), acquire(2))
	g.goes(t, store(0, 2, 1), store(1, 3, 1), store(2, 4, 1))
	g.goes(t, load(0, 1, 3), load(1, 1, 3), load(2, 1, 3))
	g.goes(t, swap(2, 1, 3, 2))
	first := g.now()
	g.goes(t, fails(0, 1, 3, 0, 2), load(0, 1, 2), fails(1, 1, 3, 1, 2), load(1, 1, 2), swap(1, 1, 2, 1))
	second := g.now()
	g.goes(t, fails(0, 1, 2, 0, 1))
	g.pending(t, 0, none)
	g.goes(t, load(0, 1, 1), swap(0, 1, 1, 0))
	third := g.now()
	g.goes(t, load(0, 3, 1), load(0, 3, 1), load(1, 4, 1), load(2, 5, 0))
	g.ended(t, 2, done, first)
	g.tells(t, release(2), done, none, store(2, 4, 0))
	// Thread 2 comes again, with the node 3, ahead of thread 1's look at its old one.
	g.make(t, acquire(2))
	g.goes(t, store(2, 5, 1), load(2, 1, 0), swap(2, 1, 0, 3))
	fourth := g.now()
	g.goes(t, load(2, 2, 1), load(0, 3, 1), load(1, 4, 0))
	g.ended(t, 1, done, second)
	g.make(t, release(1))
	g.goes(t, load(0, 3, 1), store(1, 3, 0), load(0, 3, 0))
	g.ended(t, 0, done, third)
	g.goes(t, load(2, 2, 1))
	g.tells(t, release(0), done, none, store(0, 2, 0))
	g.goes(t, load(2, 2, 0))
	g.ended(t, 2, done, fourth)
	g.tells(t, release(2), done, none, store(2, 5, 0))
	// The nodes are 1, 2 and 0 by now; node 3 is at the end.
	g.tells(t, acquire(2), done, 2, store(2, 2, 1), load(2, 1, 3), swap(2, 1, 3, 0), load(2, 5, 0))
	g.make(t, acquire(0), acquire(1))
	g.goes(t, store(0, 3, 1), store(1, 4, 1))
	g.wantHolds(t)
}

// LockNode alone: nobody is at the end, nobody comes next.
func TestNodeAlone(t *testing.T) {
	for _, threads := range []int{1, 3, api.MaxThreads} {
		g := gateOf(t, locksOf(threads, api.LockNode))
		for i := range 5 {
			me := i * 7 % threads
			next := 2 + 2*me
			g.tells(t, acquire(me), done, 2, store(me, next, 0), load(me, 1, 0), swap(me, 1, 0, me+1))
			g.tells(t, release(me), done, none, load(me, next, 0), swap(me, 1, me+1, 0))
		}
		g.wantHolds(t)
	}
}

// nodes are next and waits of threads 0, 1 and 2.
const (
	next0, waits0 = 2, 3
	next1, waits1 = 4, 5
	next2, waits2 = 6, 7
)

// LockNode: the release finds the next thread at once.
func TestNodeFindsNext(t *testing.T) {
	g := gateOf(t, locksOf(3, api.LockNode))
	g.calls(t, acquire(1))
	g.make(t, acquire(2))
	g.goes(t, store(2, next2, 0), load(2, 1, 2), swap(2, 1, 2, 3))
	point := g.now()
	g.goes(t, store(2, waits2, 1), store(2, next1, 3), load(2, waits2, 1), load(2, waits2, 1))
	g.pending(t, 2, point)
	g.wantWords(t, 0, 3, 0, 0, 3, 0, 0, 1)
	g.tells(t, release(1), done, none, load(1, next1, 3), store(1, waits2, 0))
	g.pending(t, 2, point)
	g.goes(t, load(2, waits2, 0))
	g.ended(t, 2, done, point)
	g.tells(t, release(2), done, none, load(2, next2, 0), swap(2, 1, 3, 0))
	// Its own next is cleared when it comes again.
	g.tells(t, acquire(1), done, 2, store(1, next1, 0), load(1, 1, 0), swap(1, 1, 0, 2))
	g.tells(t, release(1), done, none, load(1, next1, 0), swap(1, 1, 2, 0))
	g.wantHolds(t)
}

// LockNode: the release's swap fails, and the next thread tells itself late; only thread 0's own swap fails.
func TestNodeNextComesLate(t *testing.T) {
	g := gateOf(t, locksOf(3, api.LockNode))
	g.calls(t, acquire(0))
	g.make(t, acquire(1), acquire(2))
	g.goes(t, store(1, next1, 0), load(1, 1, 1), swap(1, 1, 1, 2))
	second := g.now()
	g.goes(t, store(2, next2, 0), load(2, 1, 2), swap(2, 1, 2, 3))
	third := g.now()
	g.make(t, release(0))
	g.goes(t, load(0, next0, 0), fails(0, 1, 1, 0, 3), load(0, next0, 0), load(0, next0, 0))
	g.pending(t, 0, none)
	g.goes(t, store(2, waits2, 1), store(2, next1, 3), load(2, waits2, 1))
	g.goes(t, load(0, next0, 0), store(1, waits1, 1), load(0, next0, 0), store(1, next0, 2), load(1, waits1, 1))
	g.goes(t, load(0, next0, 2), load(1, waits1, 1), store(0, waits1, 0))
	g.ended(t, 0, done, none)
	g.goes(t, load(2, waits2, 1), load(1, waits1, 0))
	g.ended(t, 1, done, second)
	g.tells(t, release(1), done, none, load(1, next1, 3), store(1, waits2, 0))
	g.goes(t, load(2, waits2, 0))
	g.ended(t, 2, done, third)
	g.tells(t, release(2), done, none, load(2, next2, 0), swap(2, 1, 3, 0))
	g.wantHolds(t)
}

// LockNode: the acquire's swap fails for one that came, and for one that went.
func TestNodeSwapFails(t *testing.T) {
	g := gateOf(t, locksOf(3, api.LockNode))
	g.make(t, acquire(0), acquire(1))
	g.goes(t, store(0, next0, 0), store(1, next1, 0), load(0, 1, 0), load(1, 1, 0), swap(1, 1, 0, 2))
	g.ended(t, 1, done, g.now())
	g.goes(t, fails(0, 1, 0, 1, 2))
	g.pending(t, 0, none)
	g.goes(t, load(0, 1, 2))
	g.tells(t, release(1), done, none, load(1, next1, 0), swap(1, 1, 2, 0))
	g.goes(t, fails(0, 1, 2, 1, 0), load(0, 1, 0), swap(0, 1, 0, 1))
	g.ended(t, 0, done, g.now())
	g.wantHolds(t)
}
