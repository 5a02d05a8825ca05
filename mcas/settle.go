package mcas

import "reclaim/machine"

// settling takes a mark out of a cell: its descriptor holds the cell instead, if that one is still undecided, else
// the cell is again what it was.
type settling struct {
	*store
	mark  mark
	cell  int
	next  place
	of    record
	which uint64
	after thing // what comes into the mark's place
}

const (
	loadRecord place = iota
	loadWhich
	loadUndecided
	swapMark
)

func (s *store) settle(m mark, cell int) frame {
	return &settling{store: s, mark: m, cell: cell, next: loadRecord}
}

func (s *settling) step(c *call, d *machine.Desk) {
	switch s.next {
	case loadRecord:
		s.of = recordOf(d.Load(s.record(s.mark.thread)))
		if s.of.put != s.mark.put { // the mark was settled ahead of the thread's next put
			c.end(d, nil)
			return
		}
		s.next = loadWhich
	case loadWhich:
		s.which = d.Load(s.number(s.of.d))
		s.next = loadUndecided
	case loadUndecided:
		s.after = value(s.swaps[s.which][s.of.entry].Old)
		if d.Load(s.status(s.of.d)) == undecided {
			s.after = hold(s.of.d)
		}
		s.next = swapMark
	case swapMark:
		// Where it fails somebody else has settled the mark: it never comes back.
		d.Swap(s.cell, s.mark.word(), s.after.word())
		c.end(d, nil)
	}
}

// resume has nothing to do: there are no parts.
func (s *settling) resume(*call, *machine.Desk, any) {}
