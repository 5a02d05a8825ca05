package pool_test

import (
	"cmp"
	"maps"
	"slices"
	"testing"

	"reclaim/api"
)

// world is the objects as if each call were made at once.
type world struct {
	cell, stack, queue []int // the stack's top is its last one
	set                map[int]struct{}
	table              map[int]int
}

func worldOf() *world { return &world{set: map[int]struct{}{}, table: map[int]int{}} }

// do makes a call, and tells what it answers.
func (w *world) do(c api.Call) api.Answer {
	switch c.Op {
	case api.OpPost:
		w.cell = []int{c.Arg}
		return done
	case api.OpPush:
		w.stack = append(w.stack, c.Arg)
		return done
	case api.OpEnqueue:
		w.queue = append(w.queue, c.Arg)
		return done
	case api.OpRead:
		return valueOf(w.cell)
	case api.OpPop:
		last := w.stack[max(0, len(w.stack)-1):]
		w.stack = w.stack[:len(w.stack)-len(last)]
		return valueOf(last)
	case api.OpDequeue:
		first := w.queue[:min(1, len(w.queue))]
		w.queue = w.queue[len(first):]
		return valueOf(first)
	case api.OpInsert, api.OpDelete, api.OpContains:
		return w.doSet(c)
	}
	return w.doTable(c)
}

func valueOf(list []int) api.Answer {
	if len(list) == 0 {
		return empty
	}
	return value(list[0])
}

func (w *world) doSet(c api.Call) api.Answer {
	_, there := w.set[c.Arg]
	answer := map[bool]api.Answer{true: yes, false: no}
	switch c.Op {
	case api.OpInsert:
		w.set[c.Arg] = struct{}{}
		return answer[!there]
	case api.OpDelete:
		delete(w.set, c.Arg)
	}
	return answer[there]
}

func (w *world) doTable(c api.Call) api.Answer {
	data, there := w.table[c.Arg]
	switch {
	case c.Op == api.OpAdd && there:
		return no
	case c.Op == api.OpAdd:
		w.table[c.Arg] = c.Data
		return yes
	case !there:
		return no
	case c.Op == api.OpRemove:
		delete(w.table, c.Arg)
	}
	return value(data)
}

func (w *world) contents() api.Contents {
	x := api.Contents{Cell: w.cell, Stack: slices.Clone(w.stack), Queue: w.queue, Set: slices.Sorted(maps.Keys(w.set))}
	slices.Reverse(x.Stack)
	for _, key := range slices.Sorted(maps.Keys(w.table)) {
		x.Table = append(x.Table, api.Pair{Key: key, Value: w.table[key]})
	}
	return x
}

// wantOrder is G1: each point lies within its call's time, no two calls have the same one, and the calls
// that have one and did not answer Full, in the order of their points, answer what the objects would. It
// tells what they leave. A call that has not ended has no point, if it will answer Full.
func wantOrder(t *testing.T, calls []api.Call) api.Contents {
	t.Helper()
	var order []api.Call
	for _, c := range calls {
		switch {
		case objectOf(c.Op) == 0 && c.Point < 0, c.End < 0 && c.Point < 0:
		case objectOf(c.Op) == 0, c.Point <= c.Begin, c.End >= 0 && c.Point > c.End:
			t.Fatalf("%+v", c)
		default:
			order = append(order, c)
		}
	}
	slices.SortFunc(order, func(a, b api.Call) int { return cmp.Compare(a.Point, b.Point) })
	w := worldOf()
	for i, c := range order {
		if i > 0 && order[i-1].Point == c.Point {
			t.Fatalf("%+v and %+v have one point", order[i-1], c)
		}
		if c.Answer == full {
			continue
		}
		if want := w.do(c); c.End >= 0 && c.Answer != want {
			t.Fatalf("%+v, not %+v", c, want)
		}
	}
	return w.contents()
}

// The calls of the tests' own objects answer as the document tells.
func TestWorld(t *testing.T) {
	w := worldOf()
	for _, c := range []struct {
		mv   api.Move
		want api.Answer
	}{
		{move(0, api.OpRead, 0), empty}, {move(0, api.OpPost, 4), done}, {move(0, api.OpPost, 5), done}, {move(0, api.OpRead, 0), value(5)},
		{move(0, api.OpPop, 0), empty}, {move(0, api.OpPush, 1), done}, {move(0, api.OpPush, 2), done}, {move(0, api.OpPush, 3), done}, {move(0, api.OpPop, 0), value(3)},
		{move(0, api.OpDequeue, 0), empty}, {move(0, api.OpEnqueue, 1), done}, {move(0, api.OpEnqueue, 2), done}, {move(0, api.OpEnqueue, 3), done}, {move(0, api.OpDequeue, 0), value(1)},
		{move(0, api.OpDelete, 1), no}, {move(0, api.OpContains, 1), no}, {move(0, api.OpInsert, 1), yes}, {move(0, api.OpInsert, 1), no},
		{move(0, api.OpContains, 1), yes}, {move(0, api.OpDelete, 1), yes}, {move(0, api.OpInsert, 3), yes}, {move(0, api.OpInsert, 2), yes},
		{move(0, api.OpRemove, 1), no}, {move(0, api.OpGet, 1), no}, {add(0, 1, 7), yes}, {add(0, 1, 8), no}, {move(0, api.OpGet, 1), value(7)},
		{move(0, api.OpRemove, 1), value(7)}, {add(0, 3, 9), yes}, {add(0, 2, 0), yes},
	} {
		if got := w.do(api.Call{Op: c.mv.Op, Arg: c.mv.Arg, Data: c.mv.Data}); got != c.want {
			t.Errorf("%+v: %+v, not %+v", c.mv, got, c.want)
		}
	}
	want := api.Contents{Cell: []int{5}, Stack: []int{2, 1}, Queue: []int{2, 3}, Set: []int{2, 3}, Table: []api.Pair{{Key: 2}, {Key: 3, Value: 9}}}
	if got := w.contents(); !sameContents(got, want) {
		t.Errorf("%+v, not %+v", got, want)
	}
}
