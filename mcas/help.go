package mcas

import "reclaim/machine"

// helping brings a descriptor to its end: it holds all cells of its swap, is decided, and leaves them. What it
// tells is the status.
type helping struct {
	*store
	me      int
	d       int
	which   uint64
	next    place
	entry   int    // the one that is put, or left
	outcome uint64 // what this thread would have it decided to be
	seen    int    // the move at which it was so
	verdict uint64 // what it is decided to be
}

const (
	loadNumber place = iota
	loadStatus
	putEntry // no access: an entry is being put, or one helped that is in its way
	swapStatus
	loadVerdict
	leaveCell
)

// help begins to help a descriptor that was met in a cell.
func (s *store) help(me, d int) frame {
	return &helping{store: s, me: me, d: d, next: loadNumber}
}

// helpKnown begins to help a descriptor of which the thread knows what swap it stands for.
func (s *store) helpKnown(me, d int, which uint64) frame {
	return &helping{store: s, me: me, d: d, which: which, next: loadStatus}
}

func (h *helping) step(c *call, d *machine.Desk) {
	switch h.next {
	case loadNumber:
		h.which = d.Load(h.number(h.d))
		h.next = loadStatus
	case loadStatus:
		h.verdict = d.Load(h.status(h.d))
		h.next = leaveCell
		if h.verdict == undecided {
			h.putHere(c)
		}
	case swapStatus:
		h.decide(d)
		h.next = loadVerdict
	case loadVerdict:
		h.verdict = d.Load(h.status(h.d))
		h.entry = 0
		h.next = leaveCell
	case leaveCell:
		h.leave(c, d)
	}
}

// putHere begins to put the entry.
func (h *helping) putHere(c *call) {
	h.next = putEntry
	c.begin(h.put(h.me, h.d, h.entry, h.which))
}

// resume goes on behind a part by what it came to.
func (h *helping) resume(c *call, d *machine.Desk, told any) {
	switch told := told.(type) {
	case hold:
		if int(told) != h.d {
			c.begin(h.help(h.me, int(told)))
			return
		}
		h.putNext(c)
	case value:
		h.outcome, h.seen = failed, d.Now()
		h.next = swapStatus
	default: // the other one is at its end
		h.putHere(c)
	}
}

// putNext goes on behind an entry that is put.
func (h *helping) putNext(c *call) {
	h.entry++
	if h.entry < len(h.swaps[h.which]) {
		h.putHere(c)
		return
	}
	h.outcome = succeeded
	h.next = swapStatus
}

// decide swaps the status. A swap that fails is decided at the move at which a value was seen that is not its
// Old: by the time that somebody comes to say so the cell may have another one.
func (h *helping) decide(d *machine.Desk) {
	if !d.Swap(h.status(h.d), undecided, h.outcome) {
		return
	}
	h.decided[h.d] = d.Now()
	if h.outcome == failed {
		h.decided[h.d] = h.seen
	}
}

// leave has the descriptor leave a cell, if it is still there.
func (h *helping) leave(c *call, d *machine.Desk) {
	e := h.swaps[h.which][h.entry]
	after := value(e.Old)
	if h.verdict == succeeded {
		after = value(e.New)
	}
	d.Swap(e.Cell, hold(h.d).word(), after.word())
	h.entry++
	if h.entry == len(h.swaps[h.which]) {
		c.end(d, h.verdict)
	}
}
