package machine

import (
	"slices"

	"reclaim/api"
	"reclaim/memory"
)

// book is what a machine has recorded, with the memory whose log is the trace.
type book struct {
	*memory.Memory
	calls  []api.Call
	shifts []api.Shift
}

// begin notes a call, and answers its number.
func (b *book) begin(mv api.Move, now int) int {
	b.calls = append(b.calls, api.Call{
		Thread: mv.Thread, Op: mv.Op, Arg: mv.Arg, Data: mv.Data,
		Begin: now, End: none, Point: none,
	})
	return len(b.calls) - 1
}

// end notes a call's end. AnswerNone is of calls that haven't ended: who told it told no answer.
func (b *book) end(call int, now int, told api.Answer) {
	if told.Kind == api.AnswerNone {
		told = api.Answer{Kind: api.AnswerDone}
	}
	b.calls[call].End = now
	b.calls[call].Answer = told
}

func (b *book) run() api.Run {
	return api.Run{
		Calls:  slices.Clone(b.calls),
		Trace:  b.trace(),
		Shifts: slices.Clone(b.shifts),
		Words:  b.Words(),
	}
}

func (b *book) trace() []api.Access {
	trace := make([]api.Access, 0, b.Count())
	for _, a := range b.Log(0) {
		trace = append(trace, a)
	}
	return trace
}
