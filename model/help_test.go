package model_test

import (
	"slices"
	"testing"

	"reclaim/api"
	"reclaim/model"
)

// Answers.

func value(v int) api.Answer { return api.Answer{Kind: api.AnswerValue, Value: v} }

var (
	none  = api.Answer{Kind: api.AnswerNone}
	full  = api.Answer{Kind: api.AnswerFull}
	done  = api.Answer{Kind: api.AnswerDone}
	empty = api.Answer{Kind: api.AnswerEmpty}
	yes   = api.Answer{Kind: api.AnswerYes}
	no    = api.Answer{Kind: api.AnswerNo}
)

// objects are the ops of each object, by the objects' numbers; 0 is no object's.
var objects = [][]api.Op{
	{},
	{api.OpPost, api.OpRead},
	{api.OpPush, api.OpPop},
	{api.OpEnqueue, api.OpDequeue},
	{api.OpInsert, api.OpDelete, api.OpContains},
	{api.OpAdd, api.OpRemove, api.OpGet},
}

// ops are those of all objects.
func ops() []api.Op { return slices.Concat(objects...) }

// foreign are ops of no object, and numbers that are no op's.
func foreign() []api.Op {
	known := ops()
	out := []api.Op{-1 << 63, -22, 1<<63 - 1, 1<<32 + api.OpPush}
	for op := api.Op(-1); op < 300; op++ {
		if !slices.Contains(known, op) {
			out = append(out, op)
		}
	}
	return out
}

// Lists and contents.

func list(values ...int) []int { return values }

// pairs are keys with values, told in turn.
func pairs(numbers ...int) []api.Pair {
	var out []api.Pair
	for i := 0; i+1 < len(numbers); i += 2 {
		out = append(out, api.Pair{Key: numbers[i], Value: numbers[i+1]})
	}
	return out
}

func setOf(keys ...int) api.Contents { return api.Contents{Set: keys} }

func tableOf(numbers ...int) api.Contents { return api.Contents{Table: pairs(numbers...)} }

// filled has something in each object.
func filled() api.Contents {
	return api.Contents{Cell: list(-4), Stack: list(7, -1, 7), Queue: list(3, 0, -3), Set: list(-5, 2, 9), Table: pairs(-6, 60, 1, -10, 8, 80)}
}

// without is contents with one object's list left out.
func without(s api.Contents, object int) api.Contents {
	switch object {
	case 1:
		s.Cell = nil
	case 2:
		s.Stack = nil
	case 3:
		s.Queue = nil
	case 4:
		s.Set = nil
	case 5:
		s.Table = nil
	}
	return s
}

// over is contents in which the lists that have nothing are those of others.
func over(s, others api.Contents) api.Contents {
	return api.Contents{
		Cell: either(s.Cell, others.Cell), Stack: either(s.Stack, others.Stack), Queue: either(s.Queue, others.Queue),
		Set: either(s.Set, others.Set), Table: either(s.Table, others.Table),
	}
}

func either[T any](a, b []T) []T {
	if len(a) > 0 {
		return a
	}
	return b
}

// alike tells whether two contents are the same; nil and empty lists are.
func alike(a, b api.Contents) bool {
	return slices.Equal(a.Cell, b.Cell) && slices.Equal(a.Stack, b.Stack) && slices.Equal(a.Queue, b.Queue) &&
		slices.Equal(a.Set, b.Set) && slices.Equal(a.Table, b.Table)
}

// odd are contents that may not be, each for one reason.
func odd() []api.Contents {
	return []api.Contents{
		{Cell: list(1, 2)}, {Cell: list(3, 3)}, {Cell: list(0, 0, 0)},
		setOf(2, 2), setOf(3, 2), setOf(1, 2, 2), setOf(1, 3, 2), setOf(-1, -2), setOf(1<<63-1, -1<<63), setOf(0, 1, 2, 3, 4, 4, 5), setOf(5, 1, 2, 3),
		tableOf(2, 0, 2, 0), tableOf(2, 0, 2, 1), tableOf(3, 0, 2, 1), tableOf(1, 5, 2, 6, 2, 7), tableOf(1, 0, 3, 0, 2, 0), tableOf(-1, 0, -2, 0), tableOf(1<<63-1, 0, -1<<63, 0),
	}
}

// Asking.

// do makes a call that is to be made.
func do(t *testing.T, s api.Contents, op api.Op, arg, data int) (api.Contents, api.Answer) {
	t.Helper()
	left, a, e := model.Do(s, op, arg, data)
	if e != api.OK {
		t.Fatalf("Do(%+v, %d, %d, %d) = %d", s, op, arg, data, e)
	}
	return left, a
}

func wantDo(t *testing.T, s api.Contents, op api.Op, arg, data int, want api.Answer, wantLeft api.Contents) {
	t.Helper()
	if left, a := do(t, s, op, arg, data); a != want || !alike(left, wantLeft) {
		t.Errorf("Do(%+v, %d, %d, %d) = %+v, %+v, not %+v, %+v", s, op, arg, data, left, a, wantLeft, want)
	}
}

// wantAllows asks that a call may answer so, and leaves that.
func wantAllows(t *testing.T, s api.Contents, c api.Call, want api.Contents) {
	t.Helper()
	if left, so, e := model.Allows(s, c); e != api.OK || !so || !alike(left, want) {
		t.Errorf("Allows(%+v, %+v) = %+v, %v, %d, not %+v", s, c, left, so, e, want)
	}
}

// wantNot asks that a call may not answer so.
func wantNot(t *testing.T, s api.Contents, c api.Call) {
	t.Helper()
	if left, so, e := model.Allows(s, c); e != api.OK || so || !alike(left, api.Contents{}) {
		t.Errorf("Allows(%+v, %+v) = %+v, %v, %d", s, c, left, so, e)
	}
}

func wantPlay(t *testing.T, s api.Contents, calls []api.Call, at int, want api.Contents) {
	t.Helper()
	if left, got, e := model.Play(s, calls); e != api.OK || got != at || !alike(left, want) {
		t.Errorf("Play(%+v, %+v) = %+v, %d, %d, not %+v, %d", s, calls, left, got, e, want, at)
	}
}

// wantRefused asks each call that takes contents and an op for that error, with nothing beside it.
func wantRefused(t *testing.T, s api.Contents, op api.Op, want api.Errno) {
	t.Helper()
	if left, a, e := model.Do(s, op, 1, 2); e != want || a != none || !alike(left, api.Contents{}) {
		t.Errorf("Do(%+v, %d) = %+v, %+v, %d, not %d", s, op, left, a, e, want)
	}
	for kind := api.AnswerKind(-1); kind < 8; kind++ {
		c := api.Call{Op: op, Answer: api.Answer{Kind: kind}}
		if left, so, e := model.Allows(s, c); e != want || so || !alike(left, api.Contents{}) {
			t.Errorf("Allows(%+v, %+v) = %+v, %v, %d, not %d", s, c, left, so, e, want)
		}
		if left, at, e := model.Play(s, []api.Call{c}); e != want || at != 0 || !alike(left, api.Contents{}) {
			t.Errorf("Play(%+v, %+v) = %+v, %d, %d, not %d", s, c, left, at, e, want)
		}
	}
}
