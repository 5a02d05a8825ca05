package locks

// ticketLock gives tickets, whose turns come one behind the other.
type ticketLock struct {
	tickets []uint64 // of each thread, the one that it has got last
}

func (l ticketLock) acquire(me int) work {
	return &queuing{ticket: &l.tickets[me]}
}

// release calls up the next ticket: only the thread whose turn it is stores that word.
func (l ticketLock) release(me int) work {
	return &storing{addr: servingAddr, word: l.tickets[me] + 1}
}

// queuing gets a ticket, and waits for its turn.
type queuing struct {
	pause
	ticket *uint64
}

const (
	loadNext place = iota
	swapNext
	loadServing
)

func (w *queuing) run(now *turn) bool {
	switch w.at {
	case swapNext:
		goto swap
	case loadServing:
		goto wait
	}
load:
	if w.leave(now, loadNext) {
		return false
	}
	*w.ticket = now.Load(nextAddr)
swap:
	if w.leave(now, swapNext) {
		return false
	}
	if !now.Swap(nextAddr, *w.ticket, *w.ticket+1) {
		goto load
	}
	now.point()
wait:
	if w.leave(now, loadServing) {
		return false
	}
	if now.Load(servingAddr) != *w.ticket {
		goto wait
	}
	return true
}
