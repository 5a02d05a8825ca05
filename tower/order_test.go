package tower_test

import (
	"testing"

	"reclaim/api"
)

// P18.2, part 3: an order that explains.
func TestOrderExplains(t *testing.T) {
	push, pop := call(0, api.OpPush, 1, 0, 9, 8, done), call(1, api.OpPop, 0, 1, 3, 2, empty)
	taleOf(small()).wantLines(t, "no calls", "order", "order - explains")
	taleOf(small(), push).wantLines(t, "one call", "order", "order 0 explains")
	taleOf(small(), push, pop).wantLines(t, "two calls", "order", "order 1 0 explains")
	taleOf(small(), push, pop, call(1, api.OpPop, 0, 10, 14, 12, value(1))).wantLines(t, "three calls", "order", "order 1 0 2 explains")
	taleOf(small(), push, pop, open(1, api.OpPop, 0, 10)).wantLines(t, "one that has no point", "order", "order 1 0 explains")
	taleOf(small(), open(0, api.OpPush, 1, 0), open(1, api.OpPop, 0, 1)).wantLines(t, "none that has one", "order", "order - explains")
	taleOf(small(), call(0, api.OpRegister, 0, 0, 2, -1, value(0)), call(1, api.OpFlush, 0, 3, 5, 4, done)).
		wantLines(t, "none that counts", "order", "order - explains")
	taleOf(small(), call(0, api.OpInsert, 4, 0, 2, 1, full), call(1, api.OpContains, 4, 3, 5, 4, no)).wantLines(t, "full", "order", "order 0 1 explains")
	on := api.Call{Op: api.OpPush, Arg: 6, Begin: 0, End: -1, Point: 2}
	taleOf(small(), on, call(1, api.OpPop, 0, 1, 4, 3, value(6))).wantLines(t, "one that has not ended", "order", "order 0 1 explains")
}

// P18.2, part 3: an order that does not explain is written all the same, whatever it is that is wrong with it.
func TestOrderDoesNotExplain(t *testing.T) {
	push := call(0, api.OpPush, 1, 0, 2, 1, done)
	taleOf(small(), push, call(1, api.OpPop, 0, 3, 5, 4, empty)).wantLines(t, "an answer", "order", "order 0 1 does not explain")
	taleOf(small(), push, call(1, api.OpPop, 0, 3, 5, 4, value(2))).wantLines(t, "a value", "order", "order 0 1 does not explain")
	taleOf(small(), push, call(1, api.OpPop, 0, 3, 5, 4, full)).wantLines(t, "full", "order", "order 0 1 does not explain")
	taleOf(small(), call(0, api.OpPush, 1, 0, 2, -1, done)).wantLines(t, "no order of the calls", "order", "order - does not explain")
	taleOf(small(), push, call(1, api.OpPush, 4, 3, 5, -1, done)).wantLines(t, "no order of the calls", "order", "order 0 does not explain")
	taleOf(small(), call(0, api.OpPop, 0, 0, 9, 8, value(1)), call(1, api.OpPush, 1, 1, 7, 7, done)).wantLines(t, "and one that does", "order", "order 1 0 explains")
}

// P18.2, part 3: where Points answers an error the list is empty, and does not explain: a point that is another call's
// number is none of what census.May looks at.
func TestOrderOfCallsThatMayNotBe(t *testing.T) {
	for what, calls := range map[string][]api.Call{
		"two points are the same":      {call(0, api.OpPush, 1, 0, 9, 5, done), call(1, api.OpPush, 2, 1, 8, 5, done)},
		"a point is another's end":     {call(0, api.OpPush, 1, 0, 9, 8, done), call(1, api.OpPush, 2, 1, 8, 5, done)},
		"a point is another's begin":   {call(0, api.OpPush, 1, 0, 9, 3, done), call(1, api.OpPush, 2, 3, 8, 5, done)},
		"points that are none of ours": {call(0, api.OpScan, 0, 0, 9, 5, done), call(1, api.OpPush, 2, 1, 8, 5, done)},
	} {
		taleOf(small(), calls...).wantLines(t, what, "order", "order - does not explain")
	}
}

// P18.2, part 3: many calls, of all objects.
func TestLongOrder(t *testing.T) {
	const first = "machine threads 1 records 1 hazards 3 retire 1 cache 0 slots 9 buckets 2\n"
	text := ran(t, first+"0 register\n0 . 2\n0 post 1\n0 . 20\n0 enqueue 2\n0 . 20\n0 pop\n0 . 20\n0 scan\n0 . 20\n0 insert 3\n0 . 30\n0 add 4 5\n0 . 30\n0 add 4 6\n0 . 30\n0 get 4\n0 . 30\n0 take\n0 . 9\n"+
		"0 contains 3\n0 . 30\n0 dequeue\n0 . 30\n0 read 0\n0 . 9\n0 dequeue\n0 .\n")
	if got := linesOf(text, "order"); len(got) != 1 || got[0] != "order 1 2 3 5 6 7 8 10 11 12 explains" {
		t.Errorf("%q in\n%s", got, text)
	}
}
