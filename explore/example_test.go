package explore_test

import (
	"slices"
	"testing"

	"reclaim/api"
)

// Example 1: two pushes without a switch.
func TestExampleOfTurns(t *testing.T) {
	c := example()
	one, two := turns(0, 7, 1, 7), turns(1, 7, 0, 7)
	answers := []api.Answer{done, done}
	wantAll(t, "two pushes", c, pushes(), 0, 2,
		api.Outcome{Answers: answers, Left: stackOf(2, 1), Count: 1, First: one},
		api.Outcome{Answers: answers, Left: stackOf(1, 2), Count: 1, First: two})
	wantPicks(t, "two pushes", c, pushes(), 0, 0, one)
	wantPicks(t, "two pushes", c, pushes(), 0, 1, two)
	wantSwitches(t, "two pushes", c, pushes(), one, 0)
	wantSwitches(t, "two pushes", c, pushes(), two, 0)
	// Numbers count the calls in the order in which they began, so the first one is thread 1's in the second run.
	wantExplained(t, "two pushes", c, pushes(), 0, []int{0, 1}, []int{0, 1})
}

// Example 2: a read with one switch meets nothing, or what was posted, by when the switch comes.
func TestExampleOfOneSwitch(t *testing.T) {
	c, p := example(), api.Programs{{call(api.OpPost, 1)}, {call(api.OpRead, 0)}}
	one := api.Contents{Cell: []int{1}}
	// The post is six steps, the read four or, of nothing, one. Thread 0 first: the post to its end, or cut behind one
	// to five of its steps; thread 1 first: the read is one step, and its end is no switch.
	wantAll(t, "a post and a read", c, p, 1, 7,
		api.Outcome{Answers: []api.Answer{done, value(1)}, Left: one, Count: 1, First: turns(0, 6, 1, 4)},
		api.Outcome{Answers: []api.Answer{done, empty}, Left: one, Count: 6, First: turns(0, 5, 1, 1, 0, 1)})
	wantExplained(t, "a post and a read", c, p, 1, []int{0, 1}, []int{1, 0})
	for number, picks := range [][]int{
		turns(0, 6, 1, 4), turns(0, 5, 1, 1, 0, 1), turns(0, 4, 1, 1, 0, 2), turns(0, 3, 1, 1, 0, 3),
		turns(0, 2, 1, 1, 0, 4), turns(0, 1, 1, 1, 0, 5), turns(1, 1, 0, 6),
	} {
		wantPicks(t, "a post and a read", c, p, 1, number, picks)
		wantSwitches(t, "a post and a read", c, p, picks, min(1, slices.Index(picks, 1)%6))
	}
}

// Example 3: no programs.
func TestExampleOfNone(t *testing.T) {
	for _, p := range []api.Programs{nil, {}} {
		for switches := range 9 {
			wantAll(t, "no programs", example(), p, switches, 1, api.Outcome{Count: 1})
			wantExplained(t, "no programs", example(), p, switches, nil)
			wantPicks(t, "no programs", example(), p, switches, 0, nil)
		}
		wantSwitches(t, "no programs", example(), p, nil, 0)
	}
}
