package explore_test

import (
	"slices"

	"reclaim/api"
)

// dice are the same numbers each time.
type dice uint64

func (d *dice) below(n int) int {
	*d = *d*6364136223846793005 + 1442695040888963407
	return int(uint64(*d) >> 33 % uint64(n))
}

func (d *dice) often(of10 int) bool { return d.below(10) < of10 }

// config is one of few threads, records and slots, so that calls meet.
func (d *dice) config() api.Config {
	threads := []int{1, 2, 2, 2, 2, 3, 3, 4}[d.below(8)]
	records := threads
	if d.often(3) {
		records = 1 + d.below(4)
	}
	return configOf(threads, records, 3+d.below(2), 1+d.below(3), d.below(3)/2, 2+d.below(5), 1+d.below(3))
}

// programs have at most so many calls together, mostly of one object; of fewer threads than there are too.
func (d *dice) programs(c api.Config, most int) api.Programs {
	p := make(api.Programs, c.Threads)
	if d.often(2) {
		p = make(api.Programs, 1+d.below(c.Threads))
	}
	objects := [][]api.Op{
		{api.OpPush, api.OpPop}, {api.OpEnqueue, api.OpDequeue}, {api.OpInsert, api.OpDelete, api.OpContains}, {api.OpAdd, api.OpRemove, api.OpGet},
		{api.OpPost, api.OpRead}, {api.OpPush, api.OpPop},
	}
	object := objects[d.below(len(objects))]
	for i := range max(1, most-d.below(4)) {
		thread := (i + d.below(2)) % len(p)
		mv := d.call()
		if d.often(7) {
			mv.Op = object[d.below(len(object))]
		}
		p[thread] = append(p[thread], mv)
	}
	return p
}

// call is one of all kinds; what stands in its thread is to be looked at by nobody.
func (d *dice) call() api.Move {
	ops := []api.Op{
		api.OpPush, api.OpPop, api.OpEnqueue, api.OpDequeue, api.OpInsert, api.OpDelete, api.OpContains, api.OpAdd, api.OpRemove, api.OpGet,
		api.OpPost, api.OpRead, api.OpClear, api.OpScan, api.OpTake, api.OpGive, api.OpFlush, api.OpUnregister, api.OpRegister,
		api.OpStep, 999, api.OpLook,
	}
	mv := api.Move{Thread: d.below(9) - 3, Op: ops[d.below(len(ops))], Arg: d.below(3), Data: d.below(50)}
	switch d.below(20) {
	case 0:
		mv.Op = []api.Op{api.OpBump, -1, least, greatest, api.OpPin}[d.below(5)]
	case 1:
		mv.Arg = []int{least, greatest, -1, 1 << 40}[d.below(4)]
	}
	return mv
}

// picks are of threads that take part.
func (d *dice) picks(p api.Programs, count int) []int {
	picks := make([]int, count)
	for i := range picks {
		picks[i] = d.below(len(p))
	}
	return picks
}

func copyPrograms(p api.Programs) api.Programs {
	out := slices.Clone(p)
	for i := range out {
		out[i] = slices.Clone(p[i])
	}
	return out
}
