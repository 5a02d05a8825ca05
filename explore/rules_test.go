package explore_test

import (
	"slices"
	"testing"

	"reclaim/api"
	"reclaim/explore"
	"reclaim/model"
	"reclaim/witness"
)

// tally counts what the chances had in them, so that a test over them asks for something.
type tally struct {
	cases, runs, outcomes, leftOut, others int
}

func (n *tally) count(p api.Programs, outcomes []api.Outcome, runs int) {
	n.cases++
	n.runs += runs
	n.outcomes += len(outcomes)
	for _, o := range outcomes {
		if slices.Contains(o.Answers, none) {
			n.leftOut++
		}
	}
	for _, mv := range slices.Concat(p...) {
		if model.Object(mv.Op) == 0 {
			n.others++
		}
	}
}

func (n *tally) wantMany(t *testing.T, least tally) {
	t.Helper()
	if n.cases < least.cases || n.runs < least.runs || n.outcomes < least.outcomes || n.leftOut < least.leftOut || n.others < least.others {
		t.Errorf("only %+v, not %+v", *n, least)
	}
}

// P15.1, P15.2, P15.4, P15.5: programs of all kinds, as the chapter's words tell it: each run's picks, driven by
// schedule.Drive, make that run.
func TestAllChance(t *testing.T) {
	d := dice(61)
	var n tally
	for range 400 {
		c := d.config()
		p, switches := d.programs(c, 2+d.below(4)), d.below(3)
		outcomes, runs, e := explore.All(c, p, switches)
		if e != api.OK || runs > 150 {
			continue
		}
		n.count(p, outcomes, runs)
		plainOf(c, p).want(t, switches)
		if t.Failed() {
			t.Fatalf("%+v, %v, %d switches", c, p, switches)
		}
	}
	n.wantMany(t, tally{cases: 250, runs: 2000, outcomes: 400, leftOut: 70, others: 80})
}

// P15.3: picks of all kinds, also of threads that have nothing to do.
func TestSwitchesChance(t *testing.T) {
	d := dice(62)
	total, idle := 0, 0
	for range 700 {
		c := d.config()
		p := d.programs(c, 8)
		picks := d.picks(p, d.below(60))
		x := plainOf(c, p)
		var made []int
		want := 0
		for _, thread := range picks {
			at := x.at(made)
			if !at.active(thread) {
				idle++
				continue
			}
			if at.switched(thread) {
				want++
			}
			made = append(made, thread)
		}
		total += want
		wantSwitches(t, "by chance", c, p, picks, want)
		wantSwitches(t, "without those that do nothing", c, p, made, want)
		if t.Failed() {
			t.Fatalf("%+v, %v, %v", c, p, picks)
		}
	}
	if total < 1500 || idle < 3000 {
		t.Errorf("only %d switches, %d picks of nothing", total, idle)
	}
}

// P15.5: the Counts together are the runs; the outcomes of fewer switches are among those of more.
func TestMoreSwitches(t *testing.T) {
	d := dice(63)
	more := 0
	for range 200 {
		c := d.config()
		p := d.programs(c, 4)
		var fewer []api.Outcome
		ran := 0
		for switches := range 4 {
			outcomes, runs, e := explore.All(c, p, switches)
			if e == api.ErrBudget {
				break
			}
			counted := 0
			for _, o := range outcomes {
				counted += o.Count
			}
			if e != api.OK || counted != runs || runs < ran {
				t.Fatalf("%+v, %v, %d switches: %d runs, %d counted, %d ran with fewer, %d", c, p, switches, runs, counted, ran, e)
			}
			if !among(fewer, outcomes) {
				t.Fatalf("%+v, %v, %d switches: %v are not among %v", c, p, switches, fewer, outcomes)
			}
			if switches > 0 && len(outcomes) > len(fewer) {
				more++
			}
			fewer, ran = outcomes, runs
		}
	}
	if more < 12 {
		t.Errorf("only %d times more outcomes by more switches", more)
	}
}

// among tells whether each outcome is among some others, come to by no more runs.
func among(few, many []api.Outcome) bool {
	for _, o := range few {
		i := slices.IndexFunc(many, func(other api.Outcome) bool {
			return slices.Equal(o.Answers, other.Answers) && model.Same(o.Left, other.Left)
		})
		if i < 0 || many[i].Count < o.Count || slices.Compare(many[i].First, o.First) > 0 {
			return false
		}
	}
	return true
}

// P15.5: the runs of fewer switches are just those of more that have no more of them.
func TestRunsOfFewer(t *testing.T) {
	d := dice(64)
	cases := 0
	for range 200 {
		c := d.config()
		p := d.programs(c, 4)
		_, runs, e := explore.All(c, p, 2)
		if e != api.OK || runs > 100 || runs < 6 {
			continue
		}
		cases++
		picks := allPicks(t, c, p, 2, runs)
		for switches := range 2 {
			few := slices.DeleteFunc(slices.Clone(picks), func(l []int) bool {
				n, _ := explore.Switches(c, p, l)
				return n > switches
			})
			_, runs := all(t, c, p, switches)
			if got := allPicks(t, c, p, switches, runs); !sameLists(got, few) {
				t.Fatalf("%+v, %v, %d switches: %v, not %v", c, p, switches, got, few)
			}
		}
	}
	if cases < 20 {
		t.Errorf("only %d cases", cases)
	}
}

// P15.5: with 0 switches and n threads that have calls there are n! runs.
func TestFactorial(t *testing.T) {
	d := dice(65)
	for range 150 {
		c := d.config()
		p := d.programs(c, 8)
		want, n := 1, 0
		for _, program := range p {
			if len(program) > 0 {
				n++
				want *= n
			}
		}
		if _, runs := all(t, c, p, 0); runs != want {
			t.Fatalf("%+v, %v: %d runs, not %d", c, p, runs, want)
		}
	}
}

// P15.5: every outcome is explained, by the order that Explained tells and by that of the points, which leaves Left.
func TestEveryOutcomeIsExplained(t *testing.T) {
	d := dice(66)
	var n tally
	for range 150 {
		c := d.config()
		p, switches := d.programs(c, 6), d.below(3)
		outcomes, runs, e := explore.All(c, p, switches)
		if e == api.ErrBudget {
			continue
		}
		n.count(p, outcomes, runs)
		orders := mustExplain(t, c, p, switches)
		if len(orders) != len(outcomes) {
			t.Fatalf("%d orders of %d outcomes", len(orders), len(outcomes))
		}
		for i, o := range outcomes {
			calls := plainOf(c, p).at(o.First).counting()
			points, _ := witness.Points(calls)
			left, e := witness.Left(calls, points)
			if e != api.OK || !model.Same(left, o.Left) || witness.Check(calls, orders[i]) != api.OK {
				t.Fatalf("%+v, %v, %d switches: %+v by %v: %v, %d", c, p, switches, o, orders[i], left, e)
			}
		}
	}
	n.wantMany(t, tally{cases: 100, runs: 5000, outcomes: 200, leftOut: 40, others: 50})
}
