package tower

import (
	"iter"
	"slices"
	"strconv"

	"reclaim/api"
)

// objects is what each of them holds.
func (a *account) objects() iter.Seq[string] {
	return lines(
		filled("cell _", listOf(a.held.Cell)),
		filled("stack _", listOf(a.held.Stack)),
		filled("queue _", listOf(a.held.Queue)),
		filled("set _", listOf(a.held.Set)),
		filled("table _", listText(textsOf(a.held.Table, pairText))),
	)
}

func (a *account) freeList() iter.Seq[string] { return lines(filled("free _", listOf(a.free))) }

// slots is a line for each slot that is with a thread at the end.
func (a *account) slots() iter.Seq[string] { return linesOf(a.lastShifts(), slotLine) }

// lastShifts are the last shifts of those slots, by rising slot. (census.States tells the states ahead of a move, and
// there is none behind the greatest int, which a shift's move may be.)
func (a *account) lastShifts() []api.Shift {
	last := make([]api.Shift, a.config.Slots) // a slot that had none is linked or free, as at the beginning
	for _, x := range a.run.Shifts {
		last[x.Slot] = x
	}
	return slices.DeleteFunc(last, func(x api.Shift) bool { return stateWord(x.To) == "" })
}

func slotLine(_ int, x api.Shift) string {
	return filled("slot _ _ thread _", strconv.Itoa(x.Slot), stateWord(x.To), strconv.Itoa(x.Thread))
}

// stateWord is what a state is called in which a slot is with a thread; "": it is with none.
func stateWord(s api.State) string {
	switch s {
	case api.StateCached:
		return "cached"
	case api.StateOwned:
		return "owned"
	case api.StateDetached:
		return "detached"
	case api.StateRetired:
		return "retired"
	}
	return ""
}
