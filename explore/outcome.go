package explore

import (
	"slices"

	"reclaim/api"
	"reclaim/model"
	"reclaim/pool"
)

// gathering is what runs have come to.
type gathering struct {
	config   api.Config
	outcomes []api.Outcome
	calls    [][]api.Call // of each outcome, those of its first run
}

// gather makes all runs, and puts together those that come to the same; how many runs there are.
func gather(c api.Config, p api.Programs, switches int) (*gathering, int, api.Errno) {
	g := &gathering{config: c}
	runs, e := eachRun(c, p, switches, func(_ int, w *walk) { g.take(w) })
	return g, runs, e
}

// take counts a whole run with those that have come to the same.
func (g *gathering) take(w *walk) {
	run := w.machine.Run()
	o := g.outcome(w, run)
	i := slices.IndexFunc(g.outcomes, func(other api.Outcome) bool { return alike(o, other) })
	if i < 0 {
		i = len(g.outcomes)
		g.outcomes = append(g.outcomes, o)
		g.calls = append(g.calls, run.Calls)
	}
	g.outcomes[i].Count++
}

// outcome is what a run came to, as the first one of its kind and not counted yet.
func (g *gathering) outcome(w *walk, run api.Run) api.Outcome {
	answers := make([]api.Answer, callsOf(w.programs))
	for i, place := range w.began {
		answers[place] = run.Calls[len(w.programs)+i].Answer // the registers stand ahead
	}
	left, _ := pool.Look(g.config, run.Words)
	return api.Outcome{Answers: answers, Left: left, First: w.picks}
}

// alike tells whether two runs have the same outcome.
func alike(a, b api.Outcome) bool {
	return slices.Equal(a.Answers, b.Answers) && model.Same(a.Left, b.Left)
}
