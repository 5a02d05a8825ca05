package model_test

import (
	"maps"
	"slices"

	"reclaim/api"
)

// dice are the same numbers each time.
type dice uint64

func (d *dice) below(n int) int {
	*d = *d*6364136223846793005 + 1442695040888963407
	return int(uint64(*d) >> 33 % uint64(n))
}

// key is one of a few, mostly, so that calls meet at one.
func (d *dice) key() int {
	if roll := d.below(30); roll < 3 {
		return []int{least, greatest, 1 << 40}[roll]
	}
	return d.below(7) - 3
}

func (d *dice) values(most int) []int {
	var out []int
	for range d.below(most + 1) {
		out = append(out, d.key())
	}
	return out
}

// rising is keys in their order, none twice.
func (d *dice) rising(most int) []int {
	out := d.values(most)
	slices.Sort(out)
	return slices.Compact(out)
}

// contents is some that may be.
func (d *dice) contents() api.Contents {
	s := api.Contents{Cell: d.values(1), Stack: d.values(4), Queue: d.values(4), Set: d.rising(5)}
	for _, key := range d.rising(5) {
		s.Table = append(s.Table, api.Pair{Key: key, Value: d.key()})
	}
	return s
}

// spoilt is contents that may not be, now and then.
func (d *dice) spoilt() api.Contents {
	s := d.contents()
	switch d.below(12) {
	case 0:
		s.Cell = d.values(3)
	case 1:
		s.Set = d.values(4)
	case 2:
		s.Table = nil
		for _, key := range d.values(4) {
			s.Table = append(s.Table, api.Pair{Key: key, Value: d.key()})
		}
	}
	return s
}

// op is one of an object, mostly.
func (d *dice) op() api.Op {
	if d.below(40) == 0 {
		return api.Op(d.below(150) - 5)
	}
	all := ops()
	return all[d.below(len(all))]
}

// answer is any.
func (d *dice) answer() api.Answer {
	a := api.Answer{Kind: api.AnswerKind(d.below(9) - 1)}
	if a.Kind == api.AnswerValue || d.below(20) == 0 {
		a.Value = d.key()
	}
	return a
}

// world is the objects told plainly: keys in maps, a stack with its top behind.
type world struct {
	cell, stack, queue []int
	set                map[int]int
	table              map[int]int
}

func worldOf(s api.Contents) *world {
	w := &world{cell: slices.Clone(s.Cell), queue: slices.Clone(s.Queue), set: map[int]int{}, table: map[int]int{}}
	for _, v := range slices.Backward(s.Stack) {
		w.stack = append(w.stack, v)
	}
	for _, key := range s.Set {
		w.set[key] = 0
	}
	for _, p := range s.Table {
		w.table[p.Key] = p.Value
	}
	return w
}

func (w *world) contents() api.Contents {
	s := api.Contents{Cell: slices.Clone(w.cell), Queue: slices.Clone(w.queue), Set: slices.Sorted(maps.Keys(w.set))}
	for _, v := range slices.Backward(w.stack) {
		s.Stack = append(s.Stack, v)
	}
	for _, key := range slices.Sorted(maps.Keys(w.table)) {
		s.Table = append(s.Table, api.Pair{Key: key, Value: w.table[key]})
	}
	return s
}

// mayBe tells whether contents are as they would be told back.
func mayBe(s api.Contents) bool { return len(s.Cell) < 2 && alike(s, worldOf(s).contents()) }

// do makes a call of an object, and tells what it answers.
func (w *world) do(op api.Op, arg, data int) api.Answer {
	switch op {
	case api.OpPost:
		w.cell = list(arg)
		return done
	case api.OpRead:
		return firstOf(w.cell)
	case api.OpPush:
		w.stack = append(w.stack, arg)
		return done
	case api.OpPop:
		last := w.stack[max(0, len(w.stack)-1):]
		w.stack = w.stack[:len(w.stack)-len(last)]
		return firstOf(last)
	case api.OpEnqueue:
		w.queue = append(w.queue, arg)
		return done
	case api.OpDequeue:
		first := w.queue[:min(1, len(w.queue))]
		w.queue = w.queue[len(first):]
		return firstOf(first)
	case api.OpInsert, api.OpDelete, api.OpContains:
		return w.doSet(op, arg)
	}
	return w.doTable(op, arg, data)
}

func firstOf(values []int) api.Answer {
	if len(values) == 0 {
		return empty
	}
	return value(values[0])
}

func (w *world) doSet(op api.Op, key int) api.Answer {
	_, has := w.set[key]
	switch op {
	case api.OpInsert:
		w.set[key] = 0
		has = !has
	case api.OpDelete:
		delete(w.set, key)
	}
	if has {
		return yes
	}
	return no
}

func (w *world) doTable(op api.Op, key, data int) api.Answer {
	old, has := w.table[key]
	switch {
	case op == api.OpAdd && !has:
		w.table[key] = data
		return yes
	case op == api.OpAdd, !has:
		return no
	case op == api.OpRemove:
		delete(w.table, key)
	}
	return value(old)
}

// allows tells whether a call may answer so, and makes it if so.
func (w *world) allows(c api.Call) bool {
	puts := c.Op == api.OpPost || c.Op == api.OpPush || c.Op == api.OpEnqueue || c.Op == api.OpInsert || c.Op == api.OpAdd
	if c.Answer.Kind == api.AnswerFull {
		return puts
	}
	ahead := w.contents()
	if got := w.do(c.Op, c.Arg, c.Data); c.Answer.Kind != api.AnswerNone && got != c.Answer {
		*w = *worldOf(ahead)
		return false
	}
	return true
}
