package locks

// queueLock is a queue in which each thread waits at the flag of the node ahead of its own. There is one node
// more than threads: a thread that leaves goes on with the node at which it waited, since the one behind it
// may still look at its own.
type queueLock struct {
	nodes []int // of each thread, its node
	ahead []int // of each thread, the node at which it waited last
}

// spareNode is the number of the node that is no thread's at first, and of all nodes the last one.
func spareNode(threads int) int {
	return threads
}

func queueLockOf(threads int) queueLock {
	l := queueLock{nodes: make([]int, threads), ahead: make([]int, threads)}
	for thread := range l.nodes {
		l.nodes[thread] = thread
	}
	return l
}

func nodeFlag(node int) int {
	return nodesAddr + node
}

func (l queueLock) acquire(me int) work {
	return &lining{node: l.nodes[me], ahead: &l.ahead[me]}
}

func (l queueLock) release(me int) work {
	return &passing{
		storing: storing{addr: nodeFlag(l.nodes[me]), word: 0},
		node:    &l.nodes[me],
		ahead:   l.ahead[me],
	}
}

// lining puts the thread's node at the queue's end, and waits for the one ahead.
type lining struct {
	pause
	node  int
	ahead *int
}

const (
	raiseFlag place = iota
	loadTail
	swapTail
	loadFlag
)

func (w *lining) run(now *turn) bool {
	switch w.at {
	case loadTail:
		goto load
	case swapTail:
		goto swap
	case loadFlag:
		goto wait
	}
	if w.leave(now, raiseFlag) {
		return false
	}
	now.Store(nodeFlag(w.node), 1)
load:
	if w.leave(now, loadTail) {
		return false
	}
	*w.ahead = int(now.Load(tailAddr))
swap:
	if w.leave(now, swapTail) {
		return false
	}
	if !now.Swap(tailAddr, uint64(*w.ahead), uint64(w.node)) {
		goto load
	}
	now.point()
wait:
	if w.leave(now, loadFlag) {
		return false
	}
	if now.Load(nodeFlag(*w.ahead)) != 0 {
		goto wait
	}
	return true
}

// passing lets the one behind go on, and leaves it the thread's node.
type passing struct {
	storing
	node  *int
	ahead int
}

func (w *passing) run(now *turn) bool {
	if !w.storing.run(now) {
		return false
	}
	*w.node = w.ahead
	return true
}
