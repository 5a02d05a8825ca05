package schedule_test

import (
	"slices"
	"testing"

	"reclaim/api"
	"reclaim/pool"
	"reclaim/schedule"
)

// Example 1: picks, by the chapter's own numbers.
func TestExampleOfPicks(t *testing.T) {
	wantRound(t, 3, 5, api.OK, 0, 1, 2, 0, 1)
	wantRound(t, 0, 5, api.ErrRange)
	wantSeeded(t, 0, []int{1, 1}, 3, api.OK, 1, 0, 1)
	wantSeeded(t, 1, []int{0, 5}, 2, api.OK, 1, 1)
	wantSeeded(t, 1, []int{0, 0}, 2, api.ErrRange)
	// With weights that have a sum above all of them, what is divided is told by whose part it falls into.
	const sum = api.MaxThreads * api.MaxMoves
	picks, _ := schedule.Seeded(0, slices.Repeat([]int{api.MaxMoves}, api.MaxThreads), 3)
	for i, n := range []int{167951807, 218396424, 1299921937} {
		if picks[i] != n%sum/api.MaxMoves {
			t.Errorf("pick %d of chance is %d, not that of %d", i, picks[i], n)
		}
	}
}

// Example 2: picks of two threads, one of which has nothing to do behind its register.
func TestExampleOfDrive(t *testing.T) {
	drive(example(), programs(), 0, 0, 1, 1, 1, 0).want(t, "Drive", example(), []api.Move{
		register(0), step(0), step(0), register(1), step(1), step(1), step(1), push(0, 1), step(0),
	})
}

// fairExample is the script of example 3. Chapter 5 has it that thread 1, whose swap of the first record fails, takes
// two more steps for the second one: the last of them, which the example leaves out, comes behind one more of thread 0.
func fairExample() []api.Move {
	return append([]api.Move{
		register(0), step(0), register(1), step(1), step(0), step(1), push(0, 1), step(0), step(1), step(0), step(1),
	}, steps(0, 5)...)
}

// Example 3: all in turn.
func TestExampleOfFair(t *testing.T) {
	a := fair(example(), programs(), 1000)
	a.want(t, "Fair", example(), fairExample())
	held, _ := pool.Look(example(), a.run.Words)
	if len(a.run.Calls) != 3 || a.run.Calls[2].End != len(a.script)-1 || !slices.Equal(held.Stack, []int{1}) {
		t.Errorf("the push has not ended last: %+v, %+v", a.run.Calls, held)
	}
}

// Example 4: a call that does nothing, ahead of one that begins.
func TestExampleOfRefusal(t *testing.T) {
	p := api.Programs{{move(0, api.OpPop, 0), register(0)}}
	want := []api.Move{move(0, api.OpPop, 0), register(0), step(0)}
	drive(example(), p, 0).want(t, "Drive", example(), want)
	fair(example(), p, 1).want(t, "Fair", example(), want)
	priority(example(), p, []int{0, 1}, nil, 1).want(t, "Priority", example(), want)
}

// Example 5: threads by their ranks.
func TestExampleOfPriority(t *testing.T) {
	one := slices.Concat(with(register(1), 2), with(register(0), 3), with(push(0, 1), 7))
	priority(example(), programs(), []int{1, 0}, nil, 1000).want(t, "no falls", example(), one)
	other := slices.Concat(with(register(0), 2), with(push(0, 1), 7), with(register(1), 3))
	priority(example(), programs(), []int{1, 0}, []int{0}, 1000).want(t, "a fall at first", example(), other)
}
