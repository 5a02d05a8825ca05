package schedule_test

import (
	"reclaim/api"
)

// dice are the same numbers each time.
type dice uint64

func (d *dice) below(n int) int {
	*d = *d*6364136223846793005 + 1442695040888963407
	return int(uint64(*d) >> 33 % uint64(n))
}

func (d *dice) often(of10 int) bool { return d.below(10) < of10 }

// config is one of few threads and slots, so that calls meet.
func (d *dice) config() api.Config {
	return configOf(1+d.below(4), 1+d.below(4), 3+d.below(2), 1+d.below(3), d.below(3), 1+d.below(8), 1+d.below(3))
}

// programs are those of a configuration: fewer than there are threads too, and such without a call.
func (d *dice) programs(c api.Config, most int) api.Programs {
	p := make(api.Programs, d.below(c.Threads+1))
	if d.often(7) {
		p = make(api.Programs, c.Threads)
	}
	for t := range p {
		if d.often(8) {
			p[t] = append(p[t], api.Move{Thread: d.below(9) - 3, Op: api.OpRegister})
		}
		for range d.below(most + 1) {
			p[t] = append(p[t], d.call(c))
		}
	}
	return p
}

// call is mostly one that begins; what stands in its thread is to be looked at by nobody.
func (d *dice) call(c api.Config) api.Move {
	ops := []api.Op{
		api.OpPush, api.OpPop, api.OpEnqueue, api.OpDequeue, api.OpInsert, api.OpDelete, api.OpContains, api.OpAdd, api.OpRemove, api.OpGet,
		api.OpPost, api.OpRead, api.OpClear, api.OpScan, api.OpTake, api.OpGive, api.OpFlush, api.OpRegister,
	}
	mv := api.Move{Thread: d.below(9) - 3, Op: ops[d.below(len(ops))], Arg: d.below(4), Data: d.below(50)}
	switch d.below(20) {
	case 0:
		mv.Op = api.OpStep
	case 1:
		mv.Op = []api.Op{api.OpLook, api.OpBump, 999, -1, least, greatest, api.OpPin}[d.below(7)]
	case 2:
		mv.Op = api.OpUnregister
	case 3:
		mv.Arg = []int{least, greatest, -1, 1 << 40}[d.below(4)]
	}
	return mv
}

// picks are mostly of threads that there are.
func (d *dice) picks(c api.Config, count int) []int {
	picks := make([]int, count)
	for i := range picks {
		if picks[i] = d.below(c.Threads); d.often(1) {
			picks[i] = []int{-1, c.Threads, least, greatest, 1 << 32, -1 << 32}[d.below(6)]
		}
	}
	return picks
}

// order is one of all threads.
func (d *dice) order(c api.Config) []int {
	var order []int
	for t := range c.Threads {
		order = append(order, t)
		other := d.below(t + 1)
		order[t], order[other] = order[other], order[t]
	}
	return order
}

// falls are few or many; like ones too, and such as are the number of no pick.
func (d *dice) falls(picks int) []int {
	var falls []int
	for range d.below(1 + d.below(picks+2)) {
		falls = append(falls, d.below(picks+3)-1)
	}
	if d.often(2) {
		falls = append(falls, least, greatest, 1<<32, -1)
	}
	return falls
}
