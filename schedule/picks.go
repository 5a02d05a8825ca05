package schedule

import (
	"slices"

	"reclaim/api"
)

// The numbers by which chance goes on, modulo 2^64; of what it comes to the upper bits are taken.
const (
	factor  = 6364136223846793005
	addend  = 1442695040888963407
	dropped = 33
)

// Round is picks of all threads in turn.
func Round(threads int, steps int) ([]int, api.Errno) {
	if steps > api.MaxMoves {
		return nil, api.ErrLong
	}
	if threads < 1 || threads > api.MaxThreads || steps < 0 {
		return nil, api.ErrRange
	}
	picks := make([]int, steps)
	for i := range picks {
		picks[i] = i % threads
	}
	return picks, api.OK
}

// Seeded is picks by chance, by weights.
func Seeded(seed uint64, weights []int, steps int) ([]int, api.Errno) {
	if len(weights) > api.MaxThreads || steps > api.MaxMoves {
		return nil, api.ErrLong
	}
	sums, ok := sumsOf(weights)
	if !ok || steps < 0 {
		return nil, api.ErrRange
	}
	total := uint64(sums[len(sums)-1])
	picks := make([]int, steps)
	for i := range picks {
		seed = seed*factor + addend
		rest := int(seed >> dropped % total)
		picks[i] = slices.IndexFunc(sums, func(sum int) bool { return rest < sum })
	}
	return picks, api.OK
}

// sumsOf has for each thread the sum of the weights up to its own; false, if nobody can be picked by them.
func sumsOf(weights []int) ([]int, bool) {
	sums, sum := make([]int, len(weights)), 0
	for i, weight := range weights {
		if weight < 0 || weight > api.MaxMoves {
			return nil, false
		}
		sum += weight
		sums[i] = sum
	}
	return sums, sum > 0
}
