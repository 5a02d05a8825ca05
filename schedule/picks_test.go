package schedule_test

import (
	"math/big"
	"slices"
	"testing"

	"reclaim/api"
	"reclaim/schedule"
)

func wantRound(t *testing.T, threads, steps int, e api.Errno, want ...int) {
	t.Helper()
	if got, err := schedule.Round(threads, steps); err != e || !slices.Equal(got, want) {
		t.Errorf("Round(%d, %d) = %v, %d, not %v, %d", threads, steps, got, err, want, e)
	}
}

func wantSeeded(t *testing.T, seed uint64, weights []int, steps int, e api.Errno, want ...int) {
	t.Helper()
	if got, err := schedule.Seeded(seed, weights, steps); err != e || !slices.Equal(got, want) {
		t.Errorf("Seeded(%d, %v, %d) = %v, %d, not %v, %d", seed, weights, steps, got, err, want, e)
	}
}

// P14.2: threads in turn, of each number of threads that may be, up to the most steps.
func TestRound(t *testing.T) {
	for threads := 1; threads <= api.MaxThreads; threads++ {
		for _, steps := range []int{0, 1, threads - 1, threads, threads + 1, 3*threads + 2, api.MaxMoves - 1, api.MaxMoves} {
			var want []int
			for thread := 0; len(want) < steps; {
				want = append(want, thread)
				if thread++; thread == threads {
					thread = 0
				}
			}
			wantRound(t, threads, steps, api.OK, want...)
		}
	}
}

// P14.2: ErrLong first, then ErrRange, whichever number is out of its range.
func TestRoundErrors(t *testing.T) {
	for _, threads := range []int{1, 2, api.MaxThreads} {
		for _, steps := range []int{-1, -2, -1 << 32, least} {
			wantRound(t, threads, steps, api.ErrRange)
		}
		for _, steps := range []int{api.MaxMoves + 1, 1 << 32, greatest} {
			wantRound(t, threads, steps, api.ErrLong)
		}
	}
	for _, threads := range []int{0, -1, least, api.MaxThreads + 1, 1<<32 + 1, greatest} {
		for _, steps := range []int{0, 1, 5, api.MaxMoves, -1, least} {
			wantRound(t, threads, steps, api.ErrRange)
		}
		for _, steps := range []int{api.MaxMoves + 1, greatest} {
			wantRound(t, threads, steps, api.ErrLong)
		}
	}
}

// plainSeeded is the chapter's words, by numbers that don't wrap.
func plainSeeded(seed uint64, weights []int, steps int) []int {
	s, mod := new(big.Int).SetUint64(seed), new(big.Int).Lsh(big.NewInt(1), 64)
	factor, addend := big.NewInt(6364136223846793005), big.NewInt(1442695040888963407)
	total := int64(0)
	for _, w := range weights {
		total += int64(w)
	}
	var picks []int
	for range steps {
		s.Mul(s, factor).Add(s, addend).Mod(s, mod)
		r := new(big.Int).Div(s, big.NewInt(1<<33))
		left, t := r.Mod(r, big.NewInt(total)).Int64(), 0
		for ; left >= int64(weights[t]); t++ {
			left -= int64(weights[t])
		}
		picks = append(picks, t)
	}
	return picks
}

// P14.3: picks by weights of all kinds, as the chapter's words tell it; a thread without a weight is never picked.
func TestSeeded(t *testing.T) {
	d := dice(11)
	weights := []int{0, 0, 1, 1, 2, 3, 7, 100, 65535, api.MaxMoves}
	for i := range 3000 {
		w := make([]int, 1+d.below(api.MaxThreads))
		for k := range w {
			w[k] = weights[d.below(len(weights))]
		}
		w[d.below(len(w))] = 1 + d.below(3)
		seed := []uint64{0, 1, 1<<64 - 1, 1 << 63, uint64(d)}[i%5]
		wantSeeded(t, seed, w, 40, api.OK, plainSeeded(seed, w, 40)...)
	}
}

// P14.3: at its bounds: one thread and all of them, the least and the greatest weights, no steps and the most.
func TestSeededBounds(t *testing.T) {
	most := slices.Repeat([]int{api.MaxMoves}, api.MaxThreads)
	last := make([]int, api.MaxThreads)
	last[api.MaxThreads-1] = 1
	for _, w := range [][]int{{1}, {api.MaxMoves}, {1, 0}, {0, 1}, {0, 1, 0}, most, last} {
		for _, steps := range []int{0, 1, api.MaxMoves - 1, api.MaxMoves} {
			wantSeeded(t, 5, w, steps, api.OK, plainSeeded(5, w, steps)...)
		}
	}
}

// seeded is what Seeded is given.
type seeded struct {
	weights []int
	steps   int
}

// P14.3: each error alone, and ErrLong ahead of ErrRange where there are several.
func TestSeededErrors(t *testing.T) {
	weight := func(n int) func(*seeded) {
		return func(s *seeded) { s.weights[1] = n }
	}
	faults := []fault[seeded]{
		{"too many weights", api.ErrLong, func(s *seeded) { s.weights = append(s.weights, make([]int, api.MaxThreads)...) }},
		{"too many steps", api.ErrLong, func(s *seeded) { s.steps = api.MaxMoves + 1 }},
		{"a weight below 0", api.ErrRange, weight(-1)},
		{"a weight above MaxMoves", api.ErrRange, weight(api.MaxMoves + 1)},
		{"all 0", api.ErrRange, func(s *seeded) { clear(s.weights) }},
		{"the greatest weight", api.ErrRange, weight(greatest)},
		{"the least weight", api.ErrRange, weight(least)},
	}
	fresh := func() seeded { return seeded{[]int{1, 2, 3}, 4} }
	wantSeeded(t, 9, fresh().weights, 4, api.OK, plainSeeded(9, fresh().weights, 4)...)
	eachFaults(fresh, faults, func(what string, s seeded, e api.Errno) {
		if got, err := schedule.Seeded(9, s.weights, s.steps); err != e || len(got) != 0 {
			t.Errorf("%s: %v, %d, not %d", what, got, err, e)
		}
	})
	for _, w := range [][]int{nil, {}, {0}, make([]int, api.MaxThreads), {1, greatest, greatest}, {5, -5}, {-1, 3}, {3, -1}, {least, least}} {
		for _, steps := range []int{0, 1, api.MaxMoves} {
			wantSeeded(t, 9, w, steps, api.ErrRange)
		}
		wantSeeded(t, 9, w, api.MaxMoves+1, api.ErrLong)
	}
	for _, steps := range []int{-1, least} {
		wantSeeded(t, 9, []int{1}, steps, api.ErrRange)
		wantSeeded(t, 9, make([]int, api.MaxThreads+1), steps, api.ErrLong)
	}
	for _, steps := range []int{api.MaxMoves + 1, 1<<32 + 1, greatest} {
		wantSeeded(t, 9, []int{1}, steps, api.ErrLong)
	}
	wantSeeded(t, 9, slices.Repeat([]int{1}, api.MaxThreads+1), 3, api.ErrLong)
}
