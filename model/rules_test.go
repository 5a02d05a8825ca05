package model_test

import (
	"cmp"
	"slices"
	"testing"

	"reclaim/api"
	"reclaim/model"
	"reclaim/pool"
)

// part is what of contents belongs to one object.
func part(t *testing.T, s api.Contents, object int) api.Contents {
	t.Helper()
	p, e := model.Part(s, object)
	if e != api.OK {
		t.Fatalf("Part(%+v, %d) = %d", s, object, e)
	}
	return p
}

// anyCall is a call of an object, with its number.
func (d *dice) anyCall() (object int, op api.Op, arg, data int) {
	object = 1 + d.below(5)
	of := objects[object]
	return object, of[d.below(len(of))], d.key(), d.key()
}

// P11.7: what is left may be; a call changes its own object alone, and its answer hangs on that alone.
func TestOwnObjectAlone(t *testing.T) {
	d := dice(21)
	for range 10000 {
		s := d.contents()
		object, op, arg, data := d.anyCall()
		left, a := do(t, s, op, arg, data)
		if !model.May(left) {
			t.Fatalf("Do(%+v, %d, %d, %d) leaves %+v", s, op, arg, data, left)
		}
		if !alike(without(left, object), without(s, object)) {
			t.Fatalf("Do(%+v, %d, %d, %d) leaves %+v: another object's too", s, op, arg, data, left)
		}
		wantDo(t, part(t, s, object), op, arg, data, a, part(t, left, object))
	}
}

// P11.7: two calls of unlike objects can change places.
func TestChangePlaces(t *testing.T) {
	d := dice(22)
	for unlike := 0; unlike < 5000; {
		s := d.contents()
		first, op, arg, data := d.anyCall()
		second, op2, arg2, data2 := d.anyCall()
		if first == second {
			continue
		}
		unlike++
		left, a := do(t, s, op, arg, data)
		left, b := do(t, left, op2, arg2, data2)
		turned, b2 := do(t, s, op2, arg2, data2)
		turned, a2 := do(t, turned, op, arg, data)
		if a != a2 || b != b2 || !alike(left, turned) {
			t.Fatalf("over %+v: %d, %d: %+v, %+v, %+v; turned: %+v, %+v, %+v", s, op, op2, a, b, left, a2, b2, turned)
		}
	}
}

// P11.7: what goes in comes out.
func TestInAndOut(t *testing.T) {
	d := dice(23)
	inserted, added := 0, 0
	for range 5000 {
		s, arg, data := d.contents(), d.key(), d.key()
		pushed, _ := do(t, s, api.OpPush, arg, data)
		wantDo(t, pushed, api.OpPop, d.key(), d.key(), value(arg), s)
		if with, a := do(t, s, api.OpInsert, arg, data); a == yes {
			inserted++
			wantDo(t, with, api.OpDelete, arg, d.key(), yes, s)
		}
		if with, a := do(t, s, api.OpAdd, arg, data); a == yes {
			added++
			wantDo(t, with, api.OpGet, arg, d.key(), value(data), with)
			wantDo(t, with, api.OpRemove, arg, d.key(), value(data), s)
		}
	}
	if inserted < 500 || added < 500 {
		t.Errorf("only %d inserts and %d adds of new keys", inserted, added)
	}
}

// P11.7: what is enqueued into an empty queue, in an order, is dequeued in that order.
func TestFirstInFirstOut(t *testing.T) {
	d := dice(24)
	for range 500 {
		s := without(d.contents(), 3)
		values := d.values(12)
		q := s
		for _, v := range values {
			q, _ = do(t, q, api.OpEnqueue, v, 0)
		}
		for i, v := range values {
			var a api.Answer
			if q, a = do(t, q, api.OpDequeue, 0, 0); a != value(v) {
				t.Fatalf("%v: the one of number %d is %+v", values, i, a)
			}
		}
		wantDo(t, q, api.OpDequeue, 0, 0, empty, s)
	}
}

// Play is Allows over what the one ahead has left, and Allows without an answer is Do.
func TestOneByOne(t *testing.T) {
	d := dice(25)
	for range 1000 {
		s := d.contents()
		calls := d.calls(s, d.below(12))
		if errorOf(s, opsOf(calls)...) != api.OK {
			continue
		}
		left, at := s, -1
		for i, c := range calls {
			open := c
			open.Answer = none
			done, _ := do(t, left, c.Op, c.Arg, c.Data)
			wantAllows(t, left, open, done)
			next, so, _ := model.Allows(left, c)
			if !so {
				at = i
				break
			}
			left = next
		}
		wantPlay(t, s, calls, at, left)
	}
}

func opsOf(calls []api.Call) []api.Op {
	var ops []api.Op
	for _, c := range calls {
		ops = append(ops, c.Op)
	}
	return ops
}

// G1: the calls of a pool's run, by their points, are what the objects would do, and leave what its memory has.
func TestRunsOfPool(t *testing.T) {
	d := dice(26)
	played := 0
	for range 300 {
		c := api.Config{Threads: 1 + d.below(3), Records: 3, Hazards: 3, Retire: 1 + d.below(3), Cache: d.below(2), Slots: 2 + d.below(8), Buckets: 1 + d.below(3)}
		run, _ := pool.Play(c, d.script(c.Threads, 400))
		var order []api.Call
		for _, call := range run.Calls {
			if call.Point >= 0 && model.Object(call.Op) > 0 {
				order = append(order, call)
			}
		}
		slices.SortFunc(order, func(a, b api.Call) int { return cmp.Compare(a.Point, b.Point) })
		held, e := pool.Look(c, run.Words)
		if e != api.OK {
			t.Fatalf("Look = %d", e)
		}
		wantPlay(t, api.Contents{}, order, -1, held)
		played += len(order)
	}
	if played < 3000 {
		t.Errorf("only %d calls", played)
	}
}

// script is moves of threads that hold records: mostly steps.
func (d *dice) script(threads, count int) []api.Move {
	var moves []api.Move
	for thread := range threads {
		moves = append(moves, api.Move{Thread: thread, Op: api.OpRegister})
		moves = append(moves, slices.Repeat([]api.Move{{Thread: thread}}, 8)...)
	}
	for range count {
		mv := api.Move{Thread: d.below(threads)}
		if d.below(4) == 0 {
			_, mv.Op, mv.Arg, mv.Data = d.anyCall()
		}
		moves = append(moves, mv)
	}
	return moves
}
