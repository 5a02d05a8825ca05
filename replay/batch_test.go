package replay_test

import (
	"slices"
	"testing"

	"reclaim/api"
	"reclaim/replay"
)

// ladder are scripts of one thread of which each pushes another number of values: 1, 2 and so on.
func ladder(count int) [][]api.Move {
	var scripts [][]api.Move
	for n := range count {
		moves := with(register(0), 2)
		for v := range n + 1 {
			moves = append(moves, with(push(0, 10*n+v), 7)...)
		}
		scripts = append(scripts, moves)
	}
	return scripts
}

// P16.2: the runs stand in the scripts' order, whatever the order is in which they come to an end.
func TestOrderOfRuns(t *testing.T) {
	c := configOf(1, 1, 3, 1, 0, 30, 1)
	up := ladder(12)
	down := slices.Clone(up)
	slices.Reverse(down)
	mixed := slices.Concat(up[6:], down[6:])
	for workers := 1; workers <= api.MaxThreads; workers++ {
		for _, scripts := range [][][]api.Move{up, down, mixed} {
			runs, e := replay.Batch(c, scripts, workers)
			if e != api.OK || len(runs) != len(scripts) {
				t.Fatalf("%d runs, %d", len(runs), e)
			}
			for i, run := range runs {
				last, arg := run.Calls[len(run.Calls)-1], scripts[i][len(scripts[i])-8].Arg
				if len(run.Calls) != len(scripts[i])/8+1 || last.Arg != arg || last.Answer != done {
					t.Errorf("by %d workers run %d: %+v", workers, i, run.Calls)
				}
			}
		}
	}
}

// P16.2: each script has a machine of its own: what one leaves another doesn't meet.
func TestMachinesOfTheirOwn(t *testing.T) {
	c := example()
	puts := slices.Concat(with(register(0), 2), with(push(0, 5), 7), with(push(0, 6), 7), with(push(0, 7), 7))
	takes := slices.Concat(with(register(0), 2), with(pop(0), 1))
	scripts := [][]api.Move{puts, takes, puts, takes, takes, puts, nil, takes}
	for workers := 1; workers <= api.MaxThreads; workers++ {
		runs, e := replay.Batch(c, scripts, workers)
		if e != api.OK || len(runs) != len(scripts) {
			t.Fatalf("%d runs, %d", len(runs), e)
		}
		for i, run := range runs {
			var answers []api.Answer
			for _, call := range run.Calls {
				answers = append(answers, call.Answer)
			}
			want := map[int][]api.Answer{len(puts): {value(0), done, done, full}, len(takes): {value(0), empty}, 0: nil}[len(scripts[i])]
			if !slices.Equal(answers, want) {
				t.Errorf("run %d answers %v, not %v", i, answers, want)
			}
		}
	}
}

// P16.2: no scripts, scripts without moves, and fewer scripts than workers.
func TestFewScripts(t *testing.T) {
	moves := meeting()
	c := threads(2)
	for _, scripts := range [][][]api.Move{nil, {}, {nil}, {{}}, {nil, {}, nil}, {moves}, {nil, moves}, {moves, nil, moves[:9]}} {
		for workers := 1; workers <= api.MaxThreads; workers++ {
			wantBatch(t, "few scripts", c, scripts, workers, plains(t, c, scripts))
		}
	}
}

// P16.2: scripts that are one list, or pieces of one, are those that each of them tells.
func TestScriptsThatShare(t *testing.T) {
	c, moves := threads(2), meeting()
	scripts := [][]api.Move{moves, moves, moves[:30], moves[10:], moves[3:3], moves[:30:40]}
	want := plains(t, c, scripts)
	for workers := 1; workers <= api.MaxThreads; workers++ {
		wantBatch(t, "scripts that share", c, scripts, workers, want)
	}
}
