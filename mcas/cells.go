package mcas

import "reclaim/api"

// Cells is what the cells hold, whatever is on its way.
func Cells(c api.Multi, words []uint64) ([]int, api.Errno) {
	if e := Check(c); e != api.OK {
		return nil, e
	}
	return view{layout: layoutOf(c), swaps: c.Swaps, words: words}.cellsHold()
}

// view reads words, none of which it trusts.
type view struct {
	layout
	swaps [][]api.MultiEntry
	words []uint64
}

func (v view) cellsHold() ([]int, api.Errno) {
	if len(v.words) != v.size() {
		return nil, api.ErrMultiRun
	}
	held := make([]int, v.cells)
	for cell := range held {
		now, ok := v.cellHolds(cell)
		if !ok {
			return nil, api.ErrMultiRun
		}
		held[cell] = now
	}
	return held, api.OK
}

// cellHolds is a cell's value, and true; false, if its word says nothing.
func (v view) cellHolds(cell int) (int, bool) {
	switch stands := thingOf(v.words[cell]).(type) {
	case value:
		return int(stands), !beyond(int(stands))
	case hold:
		return v.heldBy(stands, cell)
	case mark:
		return v.markedBy(stands, cell)
	}
	return 0, false
}

// heldBy is the value of a cell that a descriptor holds: by its status, Old or New.
func (v view) heldBy(h hold, cell int) (int, bool) {
	swap, ok := v.swapOf(int(h))
	if !ok {
		return 0, false
	}
	status := v.words[v.status(int(h))]
	for _, e := range swap {
		if e.Cell != cell {
			continue
		}
		switch status {
		case succeeded:
			return e.New, true
		case undecided, failed:
			return e.Old, true
		}
	}
	return 0, false
}

// markedBy is the value of a cell that a mark stands in: what its thread's record names, which has changed
// nothing as yet.
func (v view) markedBy(m mark, cell int) (int, bool) {
	if m.put == 0 || m.thread >= v.threads {
		return 0, false
	}
	of := recordOf(v.words[v.record(m.thread)])
	swap, ok := v.swapOf(of.d)
	if !ok || of.put != m.put || of.entry >= len(swap) || swap[of.entry].Cell != cell {
		return 0, false
	}
	return swap[of.entry].Old, true
}

// swapOf are the entries of the swap that a descriptor stands for, and true; false, if there is none such.
func (v view) swapOf(d int) ([]api.MultiEntry, bool) {
	if d >= v.descriptors() {
		return nil, false
	}
	which := v.words[v.number(d)]
	if which >= uint64(len(v.swaps)) {
		return nil, false
	}
	return v.swaps[which], true
}
