package pool_test

import (
	"slices"
	"testing"

	"reclaim/api"
	"reclaim/hazard"
	"reclaim/list"
	"reclaim/queue"
	"reclaim/stack"
	"reclaim/table"
)

// wholeCalls are calls by chance, of several threads, to be run to their ends one behind the other.
func wholeCalls(t *testing.T, d *dice, c api.Config, count int) []api.Move {
	t.Helper()
	by := chanceOf(t, d, c)
	var calls []api.Move
	for thread := range c.Threads {
		calls = append(calls, register(thread))
	}
	for len(calls) < count {
		mv := by.begin(by.below(c.Threads))
		if mv.Op == api.OpTake && by.below(3) > 0 { // what is taken is seldom given back
			continue
		}
		if object := objectOf(mv.Op); object > 0 && object < 4 && mv.Arg != 0 && mv.Op != api.OpRead {
			mv.Arg = len(calls)
		}
		if mv.Op == api.OpAdd {
			mv.Data = len(calls)
		}
		calls = append(calls, mv)
	}
	return calls
}

// scriptOfWhole is a script of whole calls, with as many steps behind each of them as the longest may take.
func scriptOfWhole(calls []api.Move, steps int) []api.Move {
	var moves []api.Move
	for _, mv := range calls {
		moves = append(moves, with(mv, steps)...)
	}
	return moves
}

// told is what calls of an object have answered.
type told struct {
	number int // of the call, among those that were to be begun
	call   api.Call
}

// answersOf is what the calls of objects answer that are run to their ends one behind the other, without those
// of which a test says so; false: one of them, or any other call, answered Full.
func answersOf(t *testing.T, c api.Config, calls []api.Move, without func(op api.Op) bool) ([]told, bool) {
	t.Helper()
	m := machineOf(t, c)
	var list []told
	for number, mv := range calls {
		if without(mv.Op) || !m.Move(mv) {
			continue
		}
		finish(t, m, mv.Thread)
		call, _ := m.Call(mv.Thread)
		if call.Answer == full {
			return nil, false
		}
		call.Begin, call.End, call.Point = 0, 0, 0
		if objectOf(mv.Op) > 0 {
			list = append(list, told{number, call})
		}
	}
	return list, true
}

// P10.7: the calls of each object left out change nothing of what those of the others answer, if none
// answers Full.
func TestEachObjectLeftOut(t *testing.T) {
	d := dice(41)
	var compared [6]int
	for range 500 {
		c := configOf(1+d.below(3), 3, 1+d.below(4), d.below(3), 4+d.below(30), 1+d.below(4))
		calls := wholeCalls(t, &d, c, 20+d.below(100))
		all, roomy := answersOf(t, c, calls, func(api.Op) bool { return false })
		if !roomy {
			continue
		}
		for object := 1; object <= 5; object++ {
			of := func(op api.Op) bool { return objectOf(op) == object }
			left, roomy := answersOf(t, c, calls, of)
			if !roomy {
				continue
			}
			others := slices.DeleteFunc(slices.Clone(all), func(x told) bool { return of(x.call.Op) })
			if !slices.Equal(left, others) {
				t.Fatalf("%+v: without object %d the others answer\n%+v, not\n%+v", c, object, left, others)
			}
			if len(others) < len(all) {
				compared[object]++
			}
		}
	}
	for object := 1; object <= 5; object++ {
		if compared[object] < 20 {
			t.Errorf("object %d is left out %d times", object, compared[object])
		}
	}
}

// P10.7: with the calls of all others left out each object answers what the Play of its own package tells,
// over the slots that are left to it.
func TestEachObjectAlone(t *testing.T) {
	plays := []func(c api.Config, moves []api.Move) (api.Run, api.Errno){nil, hazard.Play, stack.Play, queue.Play, list.Play, table.Play}
	d := dice(43)
	compared := 0
	for range 60 {
		c := configOf(1+d.below(3), 3, 1+d.below(4), d.below(3), 30, 1+d.below(4))
		calls := slices.DeleteFunc(wholeCalls(t, &d, c, 40), func(mv api.Move) bool {
			return mv.Op == api.OpTake || mv.Op == api.OpGive || mv.Op == api.OpFlush
		})
		all, roomy := answersOf(t, c, calls, func(api.Op) bool { return false })
		for object := 1; object <= 5 && roomy; object++ {
			own := slices.DeleteFunc(slices.Clone(calls), func(mv api.Move) bool { return objectOf(mv.Op) != 0 && objectOf(mv.Op) != object })
			r, e := plays[object](c, scriptOfWhole(own, 400))
			if e != api.OK {
				t.Fatal(e)
			}
			var got, want []api.Answer
			for _, call := range r.Calls {
				if objectOf(call.Op) == object {
					got = append(got, call.Answer)
				}
			}
			for _, x := range all {
				if objectOf(x.call.Op) == object {
					want = append(want, x.call.Answer)
				}
			}
			if !slices.Equal(got, want) {
				t.Fatalf("%+v: object %d alone answers\n%+v, with the others\n%+v", c, object, got, want)
			}
			compared++
		}
	}
	if compared < 100 {
		t.Errorf("%d are compared", compared)
	}
}

// withIdle puts moves that do nothing between those of a script, of each kind that there is; it tells too at
// which of its moves the script's own are.
func withIdle(t *testing.T, d *dice, c api.Config, moves []api.Move, met map[string]int) ([]api.Move, []int) {
	t.Helper()
	m := machineOf(t, c)
	var mixed []api.Move
	var at []int
	for _, mv := range moves {
		for d.below(3) == 0 {
			idle, kind := idleMove(d, c, m.Busy, len(m.Run().Calls) == 0)
			if m.Move(idle) {
				t.Fatalf("%s: %+v does something", kind, idle)
			}
			met[kind]++
			mixed = append(mixed, idle)
		}
		at = append(at, len(mixed))
		mixed = append(mixed, mv)
		m.Move(mv)
	}
	return mixed, at
}

// idleMove is a move that does nothing, and of which kind it is.
func idleMove(d *dice, c api.Config, busy func(thread int) bool, first bool) (api.Move, string) {
	ops := slices.Concat(objects...)
	thread, op := d.below(c.Threads), ops[d.below(len(ops))]
	switch kind := d.below(4); {
	case kind == 0:
		return move(c.Threads+d.below(2), op, 1), "a thread that there isn't"
	case kind == 1:
		return move(thread, []api.Op{api.OpLook, api.OpBump, api.OpPin, -1}[d.below(4)], 0), "an op that isn't known"
	case busy(thread):
		return move(thread, op, 1), "a call of a busy thread"
	case kind == 2:
		return step(thread), "a step of an idle thread"
	case first:
		return move(thread, []api.Op{api.OpPush, api.OpDequeue, api.OpScan, api.OpGet}[d.below(4)], 1), "a call without a record"
	}
	return move(thread, []api.Op{api.OpGive, api.OpRead, api.OpClear}[d.below(3)], -1-d.below(3)), "a call that is refused"
}

// P10.8: moves that do nothing change nothing but the numbers of the moves behind them, whether they are put
// in or left out.
func TestIdleMoves(t *testing.T) {
	met := map[string]int{}
	d := dice(47)
	eachChance(t, 120, func(c api.Config, moves []api.Move) {
		mixed, at := withIdle(t, &d, c, moves, met)
		wantRun(t, playOf(t, c, mixed...), renumbered(playOf(t, c, moves...), at))

		m := machineOf(t, c)
		var kept []api.Move
		var from []int
		for number, mv := range moves {
			if m.Move(mv) {
				kept = append(kept, mv)
				from = append(from, number)
			}
		}
		met["a move that is left out"] += len(moves) - len(kept)
		wantRun(t, m.Run(), renumbered(playOf(t, c, kept...), from))
	})
	wantMet(t, met, "a thread that there isn't", "an op that isn't known", "a call of a busy thread", "a step of an idle thread",
		"a call without a record", "a call that is refused", "a move that is left out")
}

// renumbered is a run with other numbers of its moves.
func renumbered(r api.Run, at []int) api.Run {
	number := func(move int) int {
		if move < 0 {
			return move
		}
		return at[move]
	}
	for i := range r.Calls {
		c := &r.Calls[i]
		c.Begin, c.End, c.Point = number(c.Begin), number(c.End), number(c.Point)
	}
	for i := range r.Trace {
		r.Trace[i].Move = number(r.Trace[i].Move)
	}
	for i := range r.Shifts {
		r.Shifts[i].Move = number(r.Shifts[i].Move)
	}
	return r
}
