package model_test

import (
	"testing"

	"reclaim/api"
)

const (
	least    = -1 << 63
	greatest = 1<<63 - 1
)

// row is a call, what it answers and what it leaves.
type row struct {
	s         api.Contents
	op        api.Op
	arg, data int
	want      api.Answer
	left      api.Contents
}

// eachRow goes through the rows of all objects twice: over the object alone, and with something in all others,
// which is to stay.
func eachRow(do func(r row)) {
	for object, rows := range [][]row{1: cellRows(), 2: stackRows(), 3: queueRows(), 4: setRows(), 5: tableRows()} {
		others := without(filled(), object)
		for _, r := range rows {
			do(r)
			r.s, r.left = over(r.s, others), over(r.left, others)
			do(r)
		}
	}
}

// P11.3: each op over an object that is empty, that has the key and that has it not.
func TestDo(t *testing.T) {
	eachRow(func(r row) { wantDo(t, r.s, r.op, r.arg, r.data, r.want, r.left) })
}

func cellRows() []row {
	cell := func(values ...int) api.Contents { return api.Contents{Cell: values} }
	return []row{
		{cell(), api.OpRead, 0, 0, empty, cell()},
		{cell(), api.OpRead, 3, 4, empty, cell()},
		{cell(), api.OpPost, 5, 0, done, cell(5)},
		{cell(), api.OpPost, -5, 9, done, cell(-5)},
		{cell(), api.OpPost, 0, 0, done, cell(0)},
		{cell(7), api.OpPost, 5, 0, done, cell(5)},
		{cell(7), api.OpPost, 7, 0, done, cell(7)},
		{cell(7), api.OpPost, least, 0, done, cell(least)},
		{cell(7), api.OpPost, greatest, 0, done, cell(greatest)},
		{cell(7), api.OpRead, 0, 0, value(7), cell(7)},
		{cell(-7), api.OpRead, 2, 3, value(-7), cell(-7)},
		{cell(0), api.OpRead, -1, 0, value(0), cell(0)},
		{cell(least), api.OpRead, greatest, 0, value(least), cell(least)},
	}
}

func stackRows() []row {
	stack := func(values ...int) api.Contents { return api.Contents{Stack: values} }
	return []row{
		{stack(), api.OpPop, 0, 0, empty, stack()},
		{stack(), api.OpPop, 3, 4, empty, stack()},
		{stack(), api.OpPush, 5, 0, done, stack(5)},
		{stack(), api.OpPush, -5, 9, done, stack(-5)},
		{stack(), api.OpPush, 0, 0, done, stack(0)},
		{stack(7), api.OpPush, 5, 0, done, stack(5, 7)},
		{stack(7), api.OpPush, 7, 0, done, stack(7, 7)},
		{stack(3, 2, 1), api.OpPush, -4, 0, done, stack(-4, 3, 2, 1)},
		{stack(3, 2, 1), api.OpPush, least, 0, done, stack(least, 3, 2, 1)},
		{stack(7), api.OpPop, 0, 0, value(7), stack()},
		{stack(-3, 2, 1), api.OpPop, 1, 2, value(-3), stack(2, 1)},
		{stack(1, 2, 3), api.OpPop, 3, 0, value(1), stack(2, 3)},
		{stack(0, 0), api.OpPop, 0, 0, value(0), stack(0)},
		{stack(greatest, least), api.OpPop, 0, 0, value(greatest), stack(least)},
	}
}

func queueRows() []row {
	queue := func(values ...int) api.Contents { return api.Contents{Queue: values} }
	return []row{
		{queue(), api.OpDequeue, 0, 0, empty, queue()},
		{queue(), api.OpDequeue, 3, 4, empty, queue()},
		{queue(), api.OpEnqueue, 5, 0, done, queue(5)},
		{queue(), api.OpEnqueue, -5, 9, done, queue(-5)},
		{queue(), api.OpEnqueue, 0, 0, done, queue(0)},
		{queue(7), api.OpEnqueue, 5, 0, done, queue(7, 5)},
		{queue(7), api.OpEnqueue, 7, 0, done, queue(7, 7)},
		{queue(3, 2, 1), api.OpEnqueue, -4, 0, done, queue(3, 2, 1, -4)},
		{queue(3, 2, 1), api.OpEnqueue, least, 0, done, queue(3, 2, 1, least)},
		{queue(7), api.OpDequeue, 0, 0, value(7), queue()},
		{queue(-3, 2, 1), api.OpDequeue, 1, 2, value(-3), queue(2, 1)},
		{queue(1, 2, 3), api.OpDequeue, 3, 0, value(1), queue(2, 3)},
		{queue(0, 0), api.OpDequeue, 0, 0, value(0), queue(0)},
		{queue(greatest, least), api.OpDequeue, 0, 0, value(greatest), queue(least)},
	}
}

func setRows() []row {
	return []row{
		{setOf(), api.OpInsert, 5, 0, yes, setOf(5)},
		{setOf(), api.OpInsert, -5, 9, yes, setOf(-5)},
		{setOf(), api.OpDelete, 5, 0, no, setOf()},
		{setOf(), api.OpContains, 5, 0, no, setOf()},
		{setOf(), api.OpContains, 0, 0, no, setOf()},

		{setOf(-2, 0, 4), api.OpInsert, -3, 0, yes, setOf(-3, -2, 0, 4)},
		{setOf(-2, 0, 4), api.OpInsert, least, 0, yes, setOf(least, -2, 0, 4)},
		{setOf(-2, 0, 4), api.OpInsert, -1, 0, yes, setOf(-2, -1, 0, 4)},
		{setOf(-2, 0, 4), api.OpInsert, 3, 0, yes, setOf(-2, 0, 3, 4)},
		{setOf(-2, 0, 4), api.OpInsert, 5, 7, yes, setOf(-2, 0, 4, 5)},
		{setOf(-2, 0, 4), api.OpInsert, greatest, 0, yes, setOf(-2, 0, 4, greatest)},
		{setOf(-2, 0, 4), api.OpInsert, -2, 0, no, setOf(-2, 0, 4)},
		{setOf(-2, 0, 4), api.OpInsert, 0, 0, no, setOf(-2, 0, 4)},
		{setOf(-2, 0, 4), api.OpInsert, 4, 9, no, setOf(-2, 0, 4)},

		{setOf(-2, 0, 4), api.OpDelete, -3, 0, no, setOf(-2, 0, 4)},
		{setOf(-2, 0, 4), api.OpDelete, 1, 0, no, setOf(-2, 0, 4)},
		{setOf(-2, 0, 4), api.OpDelete, 5, 0, no, setOf(-2, 0, 4)},
		{setOf(-2, 0, 4), api.OpDelete, -2, 0, yes, setOf(0, 4)},
		{setOf(-2, 0, 4), api.OpDelete, 0, 8, yes, setOf(-2, 4)},
		{setOf(-2, 0, 4), api.OpDelete, 4, 0, yes, setOf(-2, 0)},
		{setOf(least, greatest), api.OpDelete, least, 0, yes, setOf(greatest)},
		{setOf(least, greatest), api.OpDelete, greatest, 0, yes, setOf(least)},
		{setOf(-7), api.OpDelete, -7, 0, yes, setOf()},

		{setOf(-2, 0, 4), api.OpContains, -3, 0, no, setOf(-2, 0, 4)},
		{setOf(-2, 0, 4), api.OpContains, 2, 0, no, setOf(-2, 0, 4)},
		{setOf(-2, 0, 4), api.OpContains, 5, 0, no, setOf(-2, 0, 4)},
		{setOf(-2, 0, 4), api.OpContains, -2, 0, yes, setOf(-2, 0, 4)},
		{setOf(-2, 0, 4), api.OpContains, 0, 6, yes, setOf(-2, 0, 4)},
		{setOf(-2, 0, 4), api.OpContains, 4, 0, yes, setOf(-2, 0, 4)},
	}
}

func tableRows() []row {
	s := tableOf(-2, 20, 0, -30, 4, 0)
	return []row{
		{tableOf(), api.OpAdd, 5, 50, yes, tableOf(5, 50)},
		{tableOf(), api.OpAdd, -5, -50, yes, tableOf(-5, -50)},
		{tableOf(), api.OpRemove, 5, 0, no, tableOf()},
		{tableOf(), api.OpGet, 5, 0, no, tableOf()},
		{tableOf(), api.OpGet, 0, 0, no, tableOf()},

		{s, api.OpAdd, -3, 1, yes, tableOf(-3, 1, -2, 20, 0, -30, 4, 0)},
		{s, api.OpAdd, least, least, yes, tableOf(least, least, -2, 20, 0, -30, 4, 0)},
		{s, api.OpAdd, -1, -1, yes, tableOf(-2, 20, -1, -1, 0, -30, 4, 0)},
		{s, api.OpAdd, 3, 0, yes, tableOf(-2, 20, 0, -30, 3, 0, 4, 0)},
		{s, api.OpAdd, 5, 7, yes, tableOf(-2, 20, 0, -30, 4, 0, 5, 7)},
		{s, api.OpAdd, greatest, greatest, yes, tableOf(-2, 20, 0, -30, 4, 0, greatest, greatest)},
		{s, api.OpAdd, -2, 99, no, s},
		{s, api.OpAdd, 0, -30, no, s},
		{s, api.OpAdd, 4, 99, no, s},

		{s, api.OpRemove, -3, 0, no, s},
		{s, api.OpRemove, 2, -30, no, s},
		{s, api.OpRemove, 5, 0, no, s},
		{s, api.OpRemove, -2, 0, value(20), tableOf(0, -30, 4, 0)},
		{s, api.OpRemove, 0, 8, value(-30), tableOf(-2, 20, 4, 0)},
		{s, api.OpRemove, 4, 0, value(0), tableOf(-2, 20, 0, -30)},
		{tableOf(-7, least), api.OpRemove, -7, 0, value(least), tableOf()},

		{s, api.OpGet, -3, 0, no, s},
		{s, api.OpGet, 2, 0, no, s},
		{s, api.OpGet, 5, 0, no, s},
		{s, api.OpGet, -2, 0, value(20), s},
		{s, api.OpGet, 0, 6, value(-30), s},
		{s, api.OpGet, 4, 0, value(0), s},
		{tableOf(least, 1, greatest, 2), api.OpGet, least, 0, value(1), tableOf(least, 1, greatest, 2)},
		{tableOf(least, 1, greatest, 2), api.OpGet, greatest, 0, value(2), tableOf(least, 1, greatest, 2)},
	}
}
