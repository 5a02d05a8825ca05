package tower_test

import (
	"testing"

	"reclaim/api"
)

// Example 1: a machine that does nothing.
func TestExampleOfNoMoves(t *testing.T) {
	wantRun(t, machine[:len(machine)-1], machine+
		"order - explains\n"+
		"cell -\n"+
		"stack -\n"+
		"queue -\n"+
		"set -\n"+
		"table -\n"+
		"free 1\n"+
		"dishonest -\n"+
		"peaks cached 0 owned 0 linked 1 detached 0 retired 0 gap 0 steps 0\n"+
		"bounds listed 4 retired 4 solo 280 window 769\n"+
		"made 0 calls, 0 accesses, 0 shifts\n")
}

// Example 2: a push, and a pop that is on its way.
func TestExampleOfCalls(t *testing.T) {
	wantRun(t, machine+"0 register\n0 . 2\n0 push 5\n0 . 7\n0 pop\n0 . 4\n", machine+
		"call 0 thread 0 register begin 0 end 2 point - value 0\n"+
		"call 1 thread 0 push 5 begin 3 end 10 point 10 done\n"+
		"call 2 thread 0 pop begin 11 end - point - -\n"+
		"order 1 explains\n"+
		"cell -\n"+
		"stack 5\n"+
		"queue -\n"+
		"set -\n"+
		"table -\n"+
		"free -\n"+
		"dishonest -\n"+
		"peaks cached 0 owned 1 linked 2 detached 0 retired 0 gap 6 steps 7\n"+
		"bounds listed 4 retired 4 solo 280 window 769\n"+
		"made 3 calls, 13 accesses, 2 shifts\n")
}

// Example 3: what is refused.
func TestExamplesOfErrors(t *testing.T) {
	wantNoRun(t, "0 pop", 1, api.ErrLine)
	wantNoRun(t, "", 0, api.ErrEarlyEnd)
	(&tale{}).wantRefused(t, "the zero configuration", api.ErrConfig)
	taleOf(tiny(), call(0, api.OpPop, 0, 3, 1, -1, empty)).wantRefused(t, "a call that ends ahead of its beginning", api.ErrRun)
}

// A script worked by hand in which nearly all parts have something to tell: a slot is taken and kept, one is popped and
// retired, one is in the table; the last push has made two of its steps.
func TestOneOfAll(t *testing.T) {
	first := "machine threads 2 records 2 hazards 3 retire 2 cache 1 slots 5 buckets 1\n"
	text := first + "0 register\n0 . 2\n1 take\n1 . 3\n0 push 7\n0 . 7\n0 pop\n0 . 8\n0 add 5 50\n0 . 13\n0 push -3\n0 . 2\n"
	wantRun(t, text, first+
		"call 0 thread 0 register begin 0 end 2 point - value 0\n"+
		"call 1 thread 1 take begin 3 end 6 point - value 1\n"+
		"call 2 thread 0 push 7 begin 7 end 14 point 14 done\n"+
		"call 3 thread 0 pop begin 15 end 22 point 20 value 7\n"+
		"call 4 thread 0 add 5 50 begin 24 end 35 point 32 yes\n"+
		"call 5 thread 0 push -3 begin 38 end - point - -\n"+
		"order 2 3 4 explains\n"+
		"cell -\n"+
		"stack -\n"+
		"queue -\n"+
		"set -\n"+
		"table 5=50\n"+
		"free 4\n"+
		"slot 1 owned thread 1\n"+
		"slot 2 retired thread 0\n"+
		"dishonest -\n"+
		"peaks cached 0 owned 2 linked 2 detached 1 retired 1 gap 10 steps 11\n"+
		"bounds listed 13 retired 26 solo 606 window 7007\n"+
		"made 6 calls, 32 accesses, 7 shifts\n")
}

// A run by hand in which every part has something to tell: no machine's, but its parts go together.
func TestAllParts(t *testing.T) {
	x := taleOf(configOf(2, 1, 3, 1, 2, 4, 1), call(1, api.OpPush, 6, 0, 3, 3, full), open(0, 99, -1, 1))
	x.load(2, 0, addrOf(x.c, api.RegionValue, 2, 0)).shift(2, 0, 1, api.StateOwned, api.StateCached)
	x.wantText(t, "all parts", "machine threads 2 records 1 hazards 3 retire 1 cache 2 slots 4 buckets 1\n"+
		"call 0 thread 1 push 6 begin 0 end 3 point 3 full\n"+
		"call 1 thread 0 op 99 -1 0 begin 1 end - point - -\n"+
		"order 0 explains\n"+
		"cell -\n"+
		"stack -\n"+
		"queue -\n"+
		"set -\n"+
		"table -\n"+
		"free 1 2 3\n"+
		"slot 1 cached thread 0\n"+
		"fault free move 2 slot 2\n"+
		"dishonest 0\n"+
		"peaks cached 1 owned 1 linked 1 detached 0 retired 0 gap 1 steps 1\n"+
		"bounds listed 4 retired 4 solo 419 window 3751\n"+
		"made 2 calls, 1 accesses, 2 shifts\n")
}
