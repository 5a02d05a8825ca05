package witness

import (
	"cmp"
	"slices"

	"reclaim/api"
)

// Before tells whether call i had ended ahead of call j's beginning.
func Before(calls []api.Call, i int, j int) (bool, api.Errno) {
	if !May(calls) {
		return false, api.ErrCalls
	}
	if !isNumber(calls, i) || !isNumber(calls, j) {
		return false, api.ErrRange
	}
	return ahead(calls[i], calls[j]), api.OK
}

func isNumber(calls []api.Call, n int) bool { return n >= 0 && n < len(calls) }

// Width is the greatest number of calls that were on their way at one time.
func Width(calls []api.Call) (int, api.Errno) {
	if !May(calls) {
		return 0, api.ErrCalls
	}
	var ends []int
	for _, c := range calls {
		if ended(c) {
			ends = append(ends, c.End)
		}
	}
	slices.Sort(ends)
	widest, over := 0, 0
	for i, c := range calls { // there are more on their way only from a Begin on
		for over < len(ends) && ends[over] < c.Begin {
			over++
		}
		widest = max(widest, i+1-over)
	}
	return widest, api.OK
}

// Points is the order of the calls' points.
func Points(calls []api.Call) ([]int, api.Errno) {
	if !May(calls) {
		return nil, api.ErrCalls
	}
	var order []int
	for i, c := range calls {
		if counts(c) && c.Point != never {
			order = append(order, i)
		}
	}
	slices.SortFunc(order, func(a, b int) int { return cmp.Compare(calls[a].Point, calls[b].Point) })
	return order, api.OK
}
