package pool_test

import (
	"slices"
	"testing"

	"reclaim/api"
)

// Example 1: New's memory.
func TestExampleOfTheBeginning(t *testing.T) {
	m := machineOf(t, example())
	p := &paper{example(), m.Run().Words}
	p.wantLook(t, "the beginning", api.Contents{})
	p.wantFree(t, "the beginning", 1, 2)
}

// Example 2: a push and an enqueue use all slots that there are; the steps are those that the chapters of
// the stack and of the queue tell.
func TestExampleOfCalls(t *testing.T) {
	moves := slices.Concat(with(register(0), 2), with(move(0, api.OpPush, 5), 7), with(move(0, api.OpEnqueue, 7), 12))
	p := &paper{example(), playOf(t, example(), moves...).Words}
	p.wantLook(t, "a push, an enqueue", api.Contents{Stack: []int{5}, Queue: []int{7}})
	p.wantFree(t, "a push, an enqueue")
	r := playOf(t, example(), append(moves, with(move(0, api.OpPush, 6), 1)...)...)
	want := []api.Call{
		{Op: api.OpRegister, Begin: 0, End: 2, Point: -1, Answer: value(0)},
		{Op: api.OpPush, Arg: 5, Begin: 3, End: 10, Point: 10, Answer: done},
		{Op: api.OpEnqueue, Arg: 7, Begin: 11, End: 23, Point: 21, Answer: done},
		{Op: api.OpPush, Arg: 6, Begin: 24, End: 25, Point: 25, Answer: full},
	}
	if !slices.Equal(r.Calls, want) {
		t.Errorf("%+v, not\n%+v", r.Calls, want)
	}
	p = &paper{example(), r.Words}
	p.wantLook(t, "a push too many", api.Contents{Stack: []int{5}, Queue: []int{7}})
}

// Example 3: the memory of example 1 with words that no run could leave, at the addresses that are told.
func TestExampleOfShapes(t *testing.T) {
	for _, spoiled := range []map[int]uint64{
		{2: 1}, {4: 0}, {2: 4294967296}, {2: 2, 21: 2},
	} {
		p := paperOf(example())
		for addr, w := range spoiled {
			p.words[addr] = w
		}
		p.wantNoLook(t, "spoiled", api.ErrShape)
	}
}

// Example 4: words of another number, and a configuration without slots.
func TestExampleOfErrors(t *testing.T) {
	p := paperOf(example())
	p.words = p.words[1:]
	p.wantNoLook(t, "a word less", api.ErrRange)
	p.wantNoFree(t, "a word less", api.ErrRange)
	p.c.Slots = 0
	p.wantNoLook(t, "no slots", api.ErrConfig)
	p.wantNoFree(t, "no slots", api.ErrConfig)
}
