package locks

import "reclaim/api"

// lock is one kind of locks: how a thread gets it for itself alone, and how it gives it back.
type lock interface {
	acquire(me int) work
	release(me int) work
}

// sharer is a lock that several threads can have at once.
type sharer interface {
	share(me int) work
	unshare(me int) work
}

func lockOf(c api.Locks) lock {
	switch c.Kind {
	case api.LockFlag:
		return flagLock{}
	case api.LockTicket:
		return ticketLock{tickets: make([]uint64, c.Threads)}
	case api.LockQueue:
		return queueLockOf(c.Threads)
	case api.LockNode:
		return nodeLock{}
	case api.LockFilter:
		return filterLock{threads: c.Threads}
	case api.LockBakery:
		return bakeryLock{threads: c.Threads}
	}
	return sharedLock{}
}

// Addresses. What a kind has more than one of comes last in its memory.
const (
	countAddr = 0 // how often a thread that was inside has touched it; the same word in all kinds

	flagAddr    = 1
	nextAddr    = 1 // LockTicket: the ticket that is given next
	servingAddr = 2 // the ticket whose turn it is
	tailAddr    = 1 // LockQueue, LockNode
	nodesAddr   = 2
	threadsAddr = 1 // LockFilter, LockBakery
	stateAddr   = 1 // LockShared

	pairWords = 2 // what each thread has of LockNode and LockBakery
)

// size is how many words the memory has.
func size(c api.Locks) int {
	switch c.Kind {
	case api.LockFlag, api.LockShared:
		return stateAddr + 1
	case api.LockTicket:
		return servingAddr + 1
	case api.LockQueue:
		return nodesAddr + spareNode(c.Threads) + 1
	case api.LockNode:
		return nodesAddr + pairWords*c.Threads
	case api.LockBakery:
		return threadsAddr + pairWords*c.Threads
	}
	levels := c.Threads - 1
	return threadsAddr + c.Threads + levels
}
