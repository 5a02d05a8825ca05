package mcas

import (
	"reclaim/api"
	"reclaim/machine"
)

// putting has a descriptor hold the cell of one of its entries, if the cell has the entry's Old. It tells what
// stands in the cell: the descriptor, where it has put it there itself.
//
// A descriptor doesn't go into a cell by one swap: by then somebody else may have decided it, and it would stand
// there behind its end. So a mark of the thread goes ahead of it, which is taken out again by whether the
// descriptor is decided.
type putting struct {
	*store
	me    int
	of    record
	entry api.MultiEntry
	next  place
}

const (
	storeRecord place = iota
	loadCell
	swapCell
	settleOwn // no access: the mark is being settled
)

// put begins a put of the thread.
func (s *store) put(me, d, entry int, which uint64) frame {
	s.puts[me]++
	of := record{put: s.puts[me], d: d, entry: entry}
	return &putting{store: s, me: me, of: of, entry: s.swaps[which][entry], next: storeRecord}
}

func (p *putting) step(c *call, d *machine.Desk) {
	switch p.next {
	case storeRecord:
		d.Store(p.record(p.me), p.of.word())
		p.next = loadCell
	case loadCell:
		p.look(c, d, thingOf(d.Load(p.entry.Cell)))
	case swapCell:
		own := mark{thread: p.me, put: p.of.put}
		if !d.Swap(p.entry.Cell, value(p.entry.Old).word(), own.word()) {
			p.next = loadCell
			return
		}
		p.next = settleOwn
		c.begin(p.settle(own, p.entry.Cell))
	}
}

// look goes on by what stands in the cell.
func (p *putting) look(c *call, d *machine.Desk, met thing) {
	switch met := met.(type) {
	case mark:
		c.begin(p.settle(met, p.entry.Cell))
	case value:
		if met == value(p.entry.Old) {
			p.next = swapCell
			return
		}
		c.end(d, met)
	case hold:
		c.end(d, met)
	}
}

// resume comes behind a mark: another thread's, and then the cell is loaded again, or its own.
func (p *putting) resume(c *call, d *machine.Desk, _ any) {
	if p.next == settleOwn {
		c.end(d, hold(p.of.d))
	}
}
