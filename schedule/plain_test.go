package schedule_test

import (
	"slices"

	"reclaim/api"
	"reclaim/pool"
)

// plain makes the moves of picks by the chapter's words alone: what has become of the threads it finds out by playing
// the script anew.
type plain struct {
	c      api.Config
	p      api.Programs
	made   []int // of each thread, how many of its calls have had their move
	script []api.Move
	run    api.Run
	picks  int
}

func plainOf(c api.Config, p api.Programs) *plain {
	x := &plain{c: c, p: p, made: make([]int, c.Threads)}
	x.run, _ = pool.Play(c, nil)
	return x
}

func (x *plain) move(mv api.Move) {
	if len(x.script) == api.MaxMoves {
		return
	}
	x.script = append(x.script, mv)
	x.run, _ = pool.Play(x.c, x.script)
}

func (x *plain) busy(thread int) bool {
	return slices.ContainsFunc(x.run.Calls, func(c api.Call) bool { return c.Thread == thread && c.End == -1 })
}

// left is the calls that a thread has left.
func (x *plain) left(thread int) []api.Move {
	if thread < 0 || thread >= len(x.p) {
		return nil
	}
	return x.p[thread][x.made[thread]:]
}

func (x *plain) active(thread int) bool { return x.busy(thread) || len(x.left(thread)) > 0 }

func (x *plain) pick(thread int) {
	x.picks++
	if x.busy(thread) {
		x.move(step(thread))
		return
	}
	for _, call := range x.left(thread) {
		x.made[thread]++
		x.move(api.Move{Thread: thread, Op: call.Op, Arg: call.Arg, Data: call.Data})
		if x.busy(thread) {
			x.move(step(thread))
			return
		}
	}
}

func (x *plain) drive(picks []int) *plain {
	for _, thread := range picks {
		x.pick(thread)
	}
	return x
}

// fair looks, behind each pick, from the next thread on for one that has something to do.
func (x *plain) fair(steps int) *plain {
	thread := 0
	for idle := 0; x.picks < steps && idle < x.c.Threads; {
		if idle++; x.active(thread) {
			x.pick(thread)
			idle = 0
		}
		thread = (thread + 1) % x.c.Threads
	}
	return x
}

func (x *plain) priority(order, falls []int, steps int) *plain {
	order = slices.Clone(order)
	for x.picks < steps {
		first := slices.IndexFunc(order, x.active)
		if first < 0 {
			return x
		}
		if slices.Contains(falls, x.picks) {
			thread := order[first]
			order = append(slices.Delete(order, first, first+1), thread)
			first = slices.IndexFunc(order, x.active)
		}
		x.pick(order[first])
	}
	return x
}

func (x *plain) answer() answer { return answer{x.script, x.run, api.OK} }
