package explore_test

import (
	"slices"
	"testing"

	"reclaim/api"
	"reclaim/model"
	"reclaim/pool"
	"reclaim/schedule"
	"reclaim/witness"
)

// plain makes runs by the chapter's words alone, each of them driven from its beginning by schedule.Drive.
type plain struct {
	c         api.Config
	p         api.Programs
	driven    api.Programs // with the registers
	registers []int        // the picks for them
}

func plainOf(c api.Config, p api.Programs) *plain {
	x := &plain{c: c, p: p}
	for _, program := range p {
		calls := append([]api.Move{call(api.OpRegister, 0)}, program...)
		for i := range calls {
			if calls[i].Op == api.OpStep {
				calls[i].Op = 999 // begins as little, and isn't taken for a step in the script
			}
		}
		x.driven = append(x.driven, calls)
	}
	for thread := range p {
		for x.registers = append(x.registers, thread); x.at(nil).busy(thread); {
			x.registers = append(x.registers, thread)
		}
	}
	return x
}

// place is where picks have come to.
type place struct {
	*plain
	picks  []int
	script []api.Move
	run    api.Run
}

func (x *plain) at(picks []int) place {
	script, run, _ := schedule.Drive(x.c, x.driven, slices.Concat(x.registers, picks))
	return place{x, picks, script, run}
}

func (x place) busy(thread int) bool {
	return slices.ContainsFunc(x.run.Calls, func(c api.Call) bool { return c.Thread == thread && c.End == -1 })
}

// moves are the moves of a thread's calls, without its register: their numbers.
func (x place) moves(thread int) []int {
	var out []int
	for number, mv := range x.script {
		if mv.Thread == thread && mv.Op != api.OpStep {
			out = append(out, number)
		}
	}
	return out[1:]
}

func (x place) active(thread int) bool {
	return x.busy(thread) || len(x.moves(thread)) < len(x.p[thread])
}

// switched tells whether a pick of a thread would be a switch.
func (x place) switched(thread int) bool {
	n := len(x.picks)
	return n > 0 && x.picks[n-1] != thread && x.active(x.picks[n-1])
}

// begun is picks, and how many switches are among them.
type begun struct {
	picks    []int
	switches int
}

// runs are all whole runs: each beginning is lengthened by all threads, the longest ones last, and then they are
// sorted.
func (x *plain) runs(most int) []begun {
	var whole []begun
	for open := []begun{{}}; len(open) > 0; {
		var longer []begun
		for _, b := range open {
			at := x.at(b.picks)
			ended := true
			for thread := range x.p {
				if !at.active(thread) {
					continue
				}
				ended = false
				next := begun{append(slices.Clone(b.picks), thread), b.switches}
				if at.switched(thread) {
					next.switches++
				}
				if next.switches <= most {
					longer = append(longer, next)
				}
			}
			if ended {
				whole = append(whole, b)
			}
		}
		open = longer
	}
	slices.SortFunc(whole, func(a, b begun) int { return slices.Compare(a.picks, b.picks) })
	return whole
}

// outcome is what a whole run came to: a move that a call has as its beginning has that call's answer.
func (x place) outcome() api.Outcome {
	o := api.Outcome{Count: 1, First: x.picks}
	for thread := range x.p {
		for _, number := range x.moves(thread) {
			i := slices.IndexFunc(x.run.Calls, func(c api.Call) bool { return c.Begin == number })
			if i < 0 {
				o.Answers = append(o.Answers, none)
				continue
			}
			o.Answers = append(o.Answers, x.run.Calls[i].Answer)
		}
	}
	o.Left, _ = pool.Look(x.c, x.run.Words)
	return o
}

// counting are the calls that belong to an object.
func (x place) counting() []api.Call {
	return slices.DeleteFunc(slices.Clone(x.run.Calls), func(c api.Call) bool { return model.Object(c.Op) == 0 })
}

// outcomes are those of some runs, put together.
func (x *plain) outcomes(runs []begun) []api.Outcome {
	var out []api.Outcome
	for _, b := range runs {
		o := x.at(b.picks).outcome()
		i := slices.IndexFunc(out, func(other api.Outcome) bool {
			return slices.Equal(o.Answers, other.Answers) && model.Same(o.Left, other.Left)
		})
		if i < 0 {
			out = append(out, o)
			continue
		}
		out[i].Count++
	}
	return out
}

// want asks all calls for what plain runs come to; how many runs there are.
func (x *plain) want(t *testing.T, switches int) int {
	t.Helper()
	runs := x.runs(switches)
	outcomes := x.outcomes(runs)
	wantAll(t, "all runs", x.c, x.p, switches, len(runs), outcomes...)
	for number, b := range runs {
		if wantSwitches(t, "all runs", x.c, x.p, b.picks, b.switches); number%(1+len(runs)/40) == 0 { // each of few, some of many
			wantPicks(t, "all runs", x.c, x.p, switches, number, b.picks)
		}
	}
	given{c: x.c, p: x.p, switches: switches, number: len(runs)}.wantNoPicks(t, "no run", api.ErrRange)
	var orders [][]int
	for _, o := range outcomes {
		order, _ := witness.Find(x.at(o.First).counting())
		orders = append(orders, order)
	}
	wantExplained(t, "all runs", x.c, x.p, switches, orders...)
	return len(runs)
}
