package witness_test

import (
	"slices"
	"testing"

	"reclaim/api"
	"reclaim/witness"
)

const (
	least    = -1 << 63
	greatest = 1<<63 - 1
)

// Answers.

func value(v int) api.Answer { return api.Answer{Kind: api.AnswerValue, Value: v} }

var (
	none  = api.Answer{Kind: api.AnswerNone}
	full  = api.Answer{Kind: api.AnswerFull}
	done  = api.Answer{Kind: api.AnswerDone}
	empty = api.Answer{Kind: api.AnswerEmpty}
	yes   = api.Answer{Kind: api.AnswerYes}
	no    = api.Answer{Kind: api.AnswerNo}
)

// Calls.

// call is one that has ended and has no point.
func call(thread int, op api.Op, arg, begin, end int, a api.Answer) api.Call {
	return api.Call{Thread: thread, Op: op, Arg: arg, Begin: begin, End: end, Point: -1, Answer: a}
}

// open is one that has not ended and has no point.
func open(thread int, op api.Op, arg, begin int) api.Call {
	return api.Call{Thread: thread, Op: op, Arg: arg, Begin: begin, End: -1, Point: -1}
}

// at is a call with that point.
func at(point int, c api.Call) api.Call {
	c.Point = point
	return c
}

// data is a call with that data.
func data(v int, c api.Call) api.Call {
	c.Data = v
	return c
}

func calls(list ...api.Call) []api.Call { return list }

func list(numbers ...int) []int { return numbers }

// upTo is the numbers below n, in their order.
func upTo(n int) []int {
	var out []int
	for i := range n {
		out = append(out, i)
	}
	return out
}

// ops are those of each object, by the objects' numbers.
var ops = [][]api.Op{
	1: {api.OpPost, api.OpRead},
	2: {api.OpPush, api.OpPop},
	3: {api.OpEnqueue, api.OpDequeue},
	4: {api.OpInsert, api.OpDelete, api.OpContains},
	5: {api.OpAdd, api.OpRemove, api.OpGet},
}

// foreign are some ops of no object.
var foreign = []api.Op{
	api.OpStep, api.OpLook, api.OpBump, api.OpTake, api.OpGive, api.OpFlush, api.OpRegister, api.OpUnregister, api.OpClear, api.OpScan,
	api.OpPin, api.OpStow, api.OpPut, api.OpAcquire, api.OpTxRead, -1, 33, 1<<32 + api.OpPush, least, greatest,
}

// alike tells whether two contents are the same; nil and empty lists are.
func alike(a, b api.Contents) bool {
	return slices.Equal(a.Cell, b.Cell) && slices.Equal(a.Stack, b.Stack) && slices.Equal(a.Queue, b.Queue) &&
		slices.Equal(a.Set, b.Set) && slices.Equal(a.Table, b.Table)
}

// Asking.

func wantMay(t *testing.T, what string, l []api.Call, want bool) {
	t.Helper()
	if got := witness.May(l); got != want {
		t.Errorf("%s: May(%+v) = %v", what, l, got)
	}
}

func wantBefore(t *testing.T, l []api.Call, i, j int, want bool) {
	t.Helper()
	if got, e := witness.Before(l, i, j); got != want || e != api.OK {
		t.Errorf("Before(%+v, %d, %d) = %v, %d", l, i, j, got, e)
	}
}

func wantWidth(t *testing.T, l []api.Call, want int) {
	t.Helper()
	if got, e := witness.Width(l); got != want || e != api.OK {
		t.Errorf("Width(%+v) = %d, %d, not %d", l, got, e, want)
	}
}

func wantPoints(t *testing.T, l []api.Call, want ...int) {
	t.Helper()
	if got, e := witness.Points(l); !slices.Equal(got, want) || e != api.OK {
		t.Errorf("Points(%+v) = %v, %d, not %v", l, got, e, want)
	}
}

// wantCheck asks Check and Left for that error.
func wantCheck(t *testing.T, l []api.Call, order []int, want api.Errno) {
	t.Helper()
	if e := witness.Check(l, order); e != want {
		t.Errorf("Check(%+v, %v) = %d, not %d", l, order, e, want)
	}
	if s, e := witness.Left(l, order); e != want || e != api.OK && !alike(s, api.Contents{}) {
		t.Errorf("Left(%+v, %v) = %+v, %d, not %d", l, order, s, e, want)
	}
}

// wantLeft asks that an order explains the calls, and leaves that.
func wantLeft(t *testing.T, l []api.Call, order []int, want api.Contents) {
	t.Helper()
	wantCheck(t, l, order, api.OK)
	if s, _ := witness.Left(l, order); !alike(s, want) {
		t.Errorf("Left(%+v, %v) = %+v, not %+v", l, order, s, want)
	}
}

// wantFound asks for the least order, and for how many there are.
func wantFound(t *testing.T, l []api.Call, count int, order ...int) {
	t.Helper()
	if got, e := witness.Find(l); !slices.Equal(got, order) || e != api.OK {
		t.Errorf("Find(%+v) = %v, %d, not %v", l, got, e, order)
	}
	wantCount(t, l, count)
}

func wantCount(t *testing.T, l []api.Call, want int) {
	t.Helper()
	if got, e := witness.Count(l); got != want || e != api.OK {
		t.Errorf("Count(%+v) = %d, %d, not %d", l, got, e, want)
	}
}

// wantNone asks that no order explains.
func wantNone(t *testing.T, l []api.Call) {
	t.Helper()
	if got, e := witness.Find(l); len(got) != 0 || e != api.ErrNone {
		t.Errorf("Find(%+v) = %v, %d", l, got, e)
	}
	wantCount(t, l, 0)
}

// wantLong asks Find and Count for ErrLong.
func wantLong(t *testing.T, l []api.Call) {
	t.Helper()
	if got, e := witness.Find(l); len(got) != 0 || e != api.ErrLong {
		t.Errorf("Find(%+v) = %v, %d", l, got, e)
	}
	if got, e := witness.Count(l); got != 0 || e != api.ErrLong {
		t.Errorf("Count(%+v) = %d, %d", l, got, e)
	}
}

// wantRefused asks each call of the face for ErrCalls, ahead of whatever else there is, with nothing beside it.
func wantRefused(t *testing.T, what string, l []api.Call) {
	t.Helper()
	wantMay(t, what, l, false)
	for _, n := range []int{0, len(l) - 1, -1, len(l), greatest} {
		if got, e := witness.Before(l, 0, n); got || e != api.ErrCalls {
			t.Errorf("%s: Before(0, %d) = %v, %d", what, n, got, e)
		}
		if got, e := witness.Before(l, n, 0); got || e != api.ErrCalls {
			t.Errorf("%s: Before(%d, 0) = %v, %d", what, n, got, e)
		}
	}
	if got, e := witness.Width(l); got != 0 || e != api.ErrCalls {
		t.Errorf("%s: Width = %d, %d", what, got, e)
	}
	if got, e := witness.Points(l); len(got) != 0 || e != api.ErrCalls {
		t.Errorf("%s: Points = %v, %d", what, got, e)
	}
	for _, order := range [][]int{nil, upTo(len(l)), list(0, 0), list(-1), list(len(l))} {
		wantCheck(t, l, order, api.ErrCalls)
	}
	if got, e := witness.Find(l); len(got) != 0 || e != api.ErrCalls {
		t.Errorf("%s: Find = %v, %d", what, got, e)
	}
	if got, e := witness.Count(l); got != 0 || e != api.ErrCalls {
		t.Errorf("%s: Count = %d, %d", what, got, e)
	}
}
