package mcas_test

import (
	"slices"

	"reclaim/api"
)

// dice are the same numbers each time.
type dice uint64

func (d *dice) below(n int) int {
	*d = *d*6364136223846793005 + 1442695040888963407
	return int(uint64(*d) >> 33 % uint64(n))
}

// chanceMulti has few threads, cells and values most of the time, so that swaps meet, and succeed often enough.
func chanceMulti(d *dice) api.Multi {
	c := api.Multi{Threads: 1 + d.below(4), Uses: 1 + d.below(10)}
	if d.below(5) == 0 {
		c.Threads = 5 + d.below(12)
	}
	if d.below(5) == 0 {
		c.Uses = 11 + d.below(api.MaxMultiUses-10)
	}
	cells := 1 + d.below(5)
	if d.below(6) == 0 {
		cells = 6 + d.below(api.MaxMultiCells-5)
	}
	values := [][]int{{4}, {4, 9}, {4, 9}, {0, 1, api.MaxMultiValue}}[d.below(4)]
	for range cells {
		c.Cells = append(c.Cells, values[d.below(len(values))])
	}
	swaps := 1 + d.below(api.MaxMultis)
	for range swaps {
		c.Swaps = append(c.Swaps, chanceSwap(d, cells, values))
	}
	return c
}

func chanceSwap(d *dice, cells int, values []int) []api.MultiEntry {
	width := min(1+d.below(api.MaxMultiWidth), cells)
	picked := map[int]bool{}
	for len(picked) < width {
		picked[d.below(cells)] = true
	}
	var swap []api.MultiEntry
	for cell := range cells {
		if picked[cell] {
			swap = append(swap, api.MultiEntry{Cell: cell, Old: values[d.below(len(values))], New: values[d.below(len(values))]})
		}
	}
	return swap
}

// chanceMoves are moves of both calls, and others; steps come several at a time in some scripts, so that calls
// end, and one by one in others, so that they meet. In some a thread is left where it is for long.
func chanceMoves(d *dice, c api.Multi, count int) []api.Move {
	reads, burst, slow := d.below(8), 1+d.below(4)*d.below(8), d.below(3) == 0
	var moves []api.Move
	for len(moves) < count {
		thread := d.below(c.Threads)
		if slow && thread == 0 && d.below(15) > 0 {
			thread = d.below(c.Threads)
		}
		if d.below(60) == 0 {
			thread = c.Threads - (c.Threads+1)*d.below(2)
		}
		mv := multi(thread, d.below(len(c.Swaps)))
		switch roll := d.below(36); {
		case roll < reads:
			mv = read(thread, d.below(len(c.Cells)))
		case roll < 9:
		case roll == 9 && d.below(4) == 0:
			mv = api.Move{Thread: thread, Op: api.Op(d.below(140)), Arg: d.below(9) - 4, Data: d.below(9)}
		case roll == 10 && d.below(4) == 0:
			mv.Arg = []int{-1, len(c.Swaps), len(c.Cells)}[d.below(3)]
			mv.Op = api.OpMulti + api.Op(d.below(2))
		default:
			moves = append(moves, slices.Repeat([]api.Move{step(thread)}, d.below(burst))...)
			mv = step(thread)
		}
		moves = append(moves, mv)
	}
	return moves[:count]
}

// eachChance goes through scripts over many memories.
func eachChance(count int, do func(c api.Multi, moves []api.Move)) {
	d := dice(25)
	for range count {
		c := chanceMulti(&d)
		do(c, chanceMoves(&d, c, d.below(1500)))
	}
}
