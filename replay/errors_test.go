package replay_test

import (
	"slices"
	"testing"

	"reclaim/api"
	"reclaim/word"
)

// many is so many scripts without moves.
func many(count int) [][]api.Move { return make([][]api.Move, count) }

// fair is what no call refuses.
func fair() given {
	return given{c: example(), scripts: [][]api.Move{with(register(0), 2), with(flush(0), 1), nil}, workers: 2, a: empty}
}

var (
	badConfig = fault{"a configuration that may not be", api.ErrConfig, func(g *given) { g.c.Slots = 0 }}
	longFirst = fault{"a first script too long", api.ErrLong, func(g *given) { g.scripts[0] = idles(api.MaxMoves + 1) }}
	longLast  = fault{"a last script too long", api.ErrLong, func(g *given) { g.scripts[len(g.scripts)-1] = idles(api.MaxMoves + 1) }}
	crowded   = fault{"too many scripts", api.ErrLong, func(g *given) { g.scripts = append(many(api.MaxRuns+1-len(g.scripts)), g.scripts...) }}
	noWorkers = fault{"no workers", api.ErrRange, func(g *given) { g.workers = 0 }}
)

// P16.1, P16.3, P8: each error alone, and the first one of several.
func TestErrorsOfOneScript(t *testing.T) {
	eachFaults(fair, []fault{badConfig, longFirst}, func(what string, g given, e api.Errno) { g.wantNoRun(t, what, e) })
}

// P16.2, P8: likewise of several scripts.
func TestErrorsOfManyScripts(t *testing.T) {
	faults := []fault{badConfig, crowded, longFirst, longLast, noWorkers}
	eachFaults(fair, faults, func(what string, g given, e api.Errno) { g.wantNoRuns(t, what, e) })
}

// Each number of a configuration is looked at, whatever else is right or wrong.
func TestConfigurationsThatMayNotBe(t *testing.T) {
	for _, c := range badConfigs() {
		for _, g := range []given{
			fair(), {scripts: many(1), workers: 1}, {scripts: many(api.MaxRuns + 1), workers: -1}, {scripts: [][]api.Move{idles(api.MaxMoves + 1)}, workers: 17},
		} {
			g.c = c
			g.wantNoRun(t, "a configuration that may not be", api.ErrConfig)
			g.wantNoRuns(t, "a configuration that may not be", api.ErrConfig)
		}
		given{c: c, workers: 1}.wantNoRuns(t, "no scripts", api.ErrConfig)
	}
}

// The greatest and the least configuration that may be have their runs.
func TestConfigurationsAtTheirBounds(t *testing.T) {
	for _, c := range []api.Config{configOf(1, 1, 3, 1, 0, 1, 1), configOf(16, 16, 8, 1024, 64, 1024, 64)} {
		moves := slices.Concat(registers(c), with(push(c.Threads-1, 5), 9), with(pop(0), 30))
		wantPlay(t, "a bound", c, moves, plain(t, c, moves))
		wantBatch(t, "a bound", c, [][]api.Move{moves, nil}, 16, plains(t, c, [][]api.Move{moves, nil}))
		wantUntil(t, "a bound", c, moves, none, len(moves))
	}
}

// longest is a script of MaxMoves moves that ends with a call's end, the only one that answers done.
func longest(t *testing.T) []api.Move {
	t.Helper()
	moves := slices.Concat(with(register(0), 2), idles(api.MaxMoves-2-3), with(flush(0), 1))
	if len(moves) != api.MaxMoves {
		t.Fatalf("%d moves", len(moves))
	}
	return moves
}

// MaxMoves moves are run, with what the last one does; one more are too many.
func TestMovesAtTheirBound(t *testing.T) {
	c, moves := example(), longest(t)
	words, _ := word.First(c, 1)
	words[7] = 1
	want := api.Run{
		Calls: []api.Call{
			{Op: api.OpRegister, Begin: 0, End: 2, Point: -1, Answer: value(0)},
			{Op: api.OpFlush, Begin: api.MaxMoves - 2, End: api.MaxMoves - 1, Point: -1, Answer: done},
		},
		Trace: []api.Access{{Move: 1, Kind: api.AccessLoad, Addr: 7}, {Move: 2, Kind: api.AccessSwap, Addr: 7, New: 1}},
		Words: words,
	}
	wantPlay(t, "MaxMoves moves", c, moves, want)
	wantBatch(t, "MaxMoves moves", c, [][]api.Move{nil, moves, moves}, 2, []api.Run{plain(t, c, nil), want, want})
	wantUntil(t, "MaxMoves moves", c, moves, done, api.MaxMoves)
	wantUntil(t, "MaxMoves moves", c, moves, empty, api.MaxMoves)
	g := given{c: c, scripts: [][]api.Move{append(moves, step(1))}, workers: 1, a: value(0)} // the answer comes ahead
	g.wantNoRun(t, "a move more", api.ErrLong)
	g.wantNoRuns(t, "a move more", api.ErrLong)
}

// MaxMoves moves of threads that there aren't are made too.
func TestNobodysMovesAtTheirBound(t *testing.T) {
	for _, thread := range []int{-1, 1, greatest} {
		moves := slices.Repeat([]api.Move{step(thread)}, api.MaxMoves)
		wantPlay(t, "nobody's moves", example(), moves, plain(t, example(), nil))
		wantUntil(t, "nobody's moves", example(), moves, none, api.MaxMoves)
	}
}

// MaxRuns scripts are run, each in its place; one more are too many.
func TestScriptsAtTheirBound(t *testing.T) {
	c := example()
	scripts := many(api.MaxRuns)
	for i := range scripts {
		scripts[i] = slices.Concat(with(register(0), 2), with(push(0, i), i%8))
	}
	want := plains(t, c, scripts)
	for _, workers := range []int{1, 7, api.MaxThreads} {
		wantBatch(t, "MaxRuns scripts", c, scripts, workers, want)
	}
	given{c: c, scripts: append(scripts, nil), workers: 1}.wantNoRuns(t, "a script more", api.ErrLong)
	given{c: c, scripts: many(100000), workers: 1}.wantNoRuns(t, "many more", api.ErrLong)
}

// One script of many that is too long is found wherever it stands.
func TestOneScriptTooLong(t *testing.T) {
	long := idles(api.MaxMoves + 1)
	for _, count := range []int{1, 2, 9, api.MaxRuns} {
		for _, at := range []int{0, count / 2, count - 1} {
			scripts := many(count)
			scripts[at] = long
			given{c: example(), scripts: scripts, workers: 3}.wantNoRuns(t, "one too long", api.ErrLong)
		}
	}
}

// Workers are 1 to MaxThreads, whatever the configuration's threads are, and scripts or none.
func TestWorkersAtTheirBounds(t *testing.T) {
	for _, c := range []api.Config{example(), threads(16)} {
		for _, scripts := range [][][]api.Move{nil, {nil}, {with(register(0), 2), nil, with(flush(0), 1)}} {
			for _, workers := range []int{least, -1 << 32, -16, -2, -1, 0, 17, 18, 4096, 1 << 32, 1<<32 + 1, greatest} {
				given{c: c, scripts: scripts, workers: workers}.wantNoRuns(t, "workers that may not be", api.ErrRange)
			}
			for workers := 1; workers <= 16; workers++ {
				wantBatch(t, "workers that may be", c, scripts, workers, plains(t, c, scripts))
			}
		}
	}
}
