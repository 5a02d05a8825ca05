package explore

import (
	"slices"

	"reclaim/api"
	"reclaim/word"
)

// refusal is the error that all calls share; long and outside tell whether what a call is given beside its programs is
// above a limit, or out of its range.
func refusal(c api.Config, p api.Programs, long bool, outside bool) api.Errno {
	if e := word.Check(c); e != api.OK {
		return e
	}
	if long || callsOf(p) > api.MaxSearch {
		return api.ErrLong
	}
	if outside || len(p) > c.Threads {
		return api.ErrRange
	}
	return api.OK
}

func callsOf(p api.Programs) int {
	calls := 0
	for _, program := range p {
		calls += len(program)
	}
	return calls
}

// areThreads tells whether all picks are of threads that take part.
func areThreads(picks []int, threads int) bool {
	return !slices.ContainsFunc(picks, func(pick int) bool { return pick < 0 || pick >= threads })
}
