package tower_test

import (
	"strconv"
	"strings"
	"testing"

	"reclaim/api"
	"reclaim/script"
)

// P18.2, part 2: no calls, no lines.
func TestNoCalls(t *testing.T) {
	taleOf(small()).wantLines(t, "no calls", "call")
}

// P18.2, part 2: a word with as many of Arg and Data as its line in a script has; what it doesn't have isn't told.
func TestWordsOfCalls(t *testing.T) {
	for _, x := range []struct {
		op   api.Op
		what string
	}{
		{api.OpTake, "take"}, {api.OpGive, "give 5"}, {api.OpFlush, "flush"},
		{api.OpRegister, "register"}, {api.OpUnregister, "unregister"}, {api.OpPost, "post 5"}, {api.OpRead, "read 5"}, {api.OpClear, "clear 5"}, {api.OpScan, "scan"},
		{api.OpPush, "push 5"}, {api.OpPop, "pop"}, {api.OpEnqueue, "enqueue 5"}, {api.OpDequeue, "dequeue"},
		{api.OpInsert, "insert 5"}, {api.OpDelete, "delete 5"}, {api.OpContains, "contains 5"},
		{api.OpAdd, "add 5 -6"}, {api.OpRemove, "remove 5"}, {api.OpGet, "get 5"},
		{api.OpLook, "look 5"}, {api.OpBump, "bump 5"},
		{api.OpStep, "op 0 5 -6"}, {3, "op 3 5 -6"}, {-1, "op -1 5 -6"}, {99, "op 99 5 -6"}, {api.OpPin, "op 80 5 -6"}, {api.OpPut, "op 100 5 -6"},
		{api.OpTxWrite, "op 142 5 -6"}, {least, "op -9223372036854775808 5 -6"}, {greatest, "op 9223372036854775807 5 -6"}, {1<<32 + api.OpPop, "op 4294967327 5 -6"},
	} {
		c := api.Call{Thread: 1, Op: x.op, Arg: 5, Data: -6, Begin: 7, End: -1, Point: -1}
		taleOf(small(), c).wantLines(t, x.what, "call", "call 0 thread 1 "+x.what+" begin 7 end - point - -")
	}
}

// P18.2, part 2: numbers that a line has are told, 0 and the greatest too.
func TestNumbersOfCalls(t *testing.T) {
	for _, n := range []int{0, 1, -1, 10, -10, 100, 1 << 32, greatest, least} {
		text := strconv.Itoa(n)
		for what, c := range map[string]api.Call{
			"push " + text:              {Op: api.OpPush, Arg: n},
			"add " + text + " 0":        {Op: api.OpAdd, Arg: n},
			"add 0 " + text:             {Op: api.OpAdd, Data: n},
			"op 7 " + text + " 0":       {Op: 7, Arg: n},
			"op 7 0 " + text:            {Op: 7, Data: n},
			"op 0 " + text + " " + text: {Arg: n, Data: n},
			"add " + text + " " + text:  {Op: api.OpAdd, Arg: n, Data: n},
			"pop":                       {Op: api.OpPop, Arg: n, Data: n},
			"contains 3":                {Op: api.OpContains, Arg: 3, Data: n},
		} {
			c.End, c.Point = -1, -1
			taleOf(tiny(), c).wantLines(t, what, "call", "call 0 thread 0 "+what+" begin 0 end - point - -")
		}
	}
}

// P18.2, part 2: whatever the op, what is told is what a script's line has behind the thread, read as the same op with
// what its line has.
func TestCallsAreLinesOfScripts(t *testing.T) {
	for op := api.Op(-5); op < 200; op++ {
		c := api.Call{Op: op, Arg: 31, Data: 41, Begin: 0, End: -1, Point: -1}
		line := linesOf(taleOf(tiny(), c).reported(t), "call")[0]
		what := strings.TrimSuffix(strings.TrimPrefix(line, "call 0 thread 0 "), " begin 0 end - point - -")
		_, moves, at, e := script.Parse(machine + "0 " + what)
		if e != api.OK || len(moves) != 1 || moves[0].Op != op {
			t.Fatalf("%q: %v, %d, %d", line, moves, at, e)
		}
		mv := moves[0]
		if printed, _ := script.Print(tiny(), moves); printed != machine+"0 "+what+"\n" {
			t.Errorf("%q is printed %q", line, printed)
		}
		if has := len(strings.Fields(what)); script.Word(op) == "" && (mv.Arg != 31 || mv.Data != 41) || script.Word(op) != "" && (has > 1) != (mv.Arg == 31) {
			t.Errorf("%q is read as %v", line, mv)
		}
	}
}

// P18.2, part 2: calls in their order, each with its number and thread.
func TestCallsInOrder(t *testing.T) {
	calls := []api.Call{
		call(1, api.OpRegister, 0, 0, 2, -1, value(0)), call(0, api.OpPop, 0, 3, 9, 4, empty), call(1, api.OpPush, 4, 5, 8, 7, done), open(1, api.OpScan, 0, 12), open(0, api.OpFlush, 0, 13),
	}
	taleOf(small(), calls...).wantLines(t, "five calls", "call",
		"call 0 thread 1 register begin 0 end 2 point - value 0",
		"call 1 thread 0 pop begin 3 end 9 point 4 empty",
		"call 2 thread 1 push 4 begin 5 end 8 point 7 done",
		"call 3 thread 1 scan begin 12 end - point - -",
		"call 4 thread 0 flush begin 13 end - point - -")
	var many []api.Call
	for i := range 1200 {
		many = append(many, call(i%2, api.OpFlush, 0, 2*i, 2*i+1, -1, done))
	}
	for i, line := range linesOf(taleOf(small(), many...).reported(t), "call") {
		if want := "call " + strconv.Itoa(i) + " thread " + strconv.Itoa(i%2) + " flush begin " + strconv.Itoa(2*i) + " end " + strconv.Itoa(2*i+1) + " point - done"; line != want {
			t.Fatalf("%q, not %q", line, want)
		}
	}
	for thread := range 16 {
		taleOf(configOf(16, 1, 3, 1, 0, 1, 1), open(thread, api.OpPop, 0, 0)).
			wantLines(t, "a thread", "call", "call 0 thread "+strconv.Itoa(thread)+" pop begin 0 end - point - -")
	}
}

// P18.2, part 2: times that are there and times that aren't, each by itself.
func TestTimesOfCalls(t *testing.T) {
	for _, x := range []struct {
		c    api.Call
		line string
	}{
		{open(0, api.OpPop, 0, 0), "begin 0 end - point - -"},
		{open(0, api.OpPop, 0, 1), "begin 1 end - point - -"},
		{open(0, api.OpPop, 0, greatest), "begin 9223372036854775807 end - point - -"},
		{api.Call{Op: api.OpPop, Begin: 4, End: -1, Point: 5}, "begin 4 end - point 5 -"},
		{api.Call{Op: api.OpPop, Begin: 4, End: -1, Point: greatest}, "begin 4 end - point 9223372036854775807 -"},
		{call(0, api.OpPop, 0, 4, 6, -1, empty), "begin 4 end 6 point - empty"},
		{call(0, api.OpPop, 0, 4, 6, 5, empty), "begin 4 end 6 point 5 empty"},
		{call(0, api.OpPop, 0, 4, 6, 6, empty), "begin 4 end 6 point 6 empty"},
		{call(0, api.OpPop, 0, 4, greatest, 1<<40, empty), "begin 4 end 9223372036854775807 point 1099511627776 empty"},
	} {
		taleOf(tiny(), x.c).wantLines(t, x.line, "call", "call 0 thread 0 pop "+x.line)
	}
}

// P18.2, part 2: every kind of answer.
func TestAnswersOfCalls(t *testing.T) {
	for text, a := range map[string]api.Answer{
		"done": done, "empty": empty, "full": full, "yes": yes, "no": no, "value 0": value(0), "value -3": value(-3), "value 17": value(17),
		"value 9223372036854775807": value(greatest), "value -9223372036854775808": value(least),
	} {
		taleOf(tiny(), call(0, api.OpGet, 8, 0, 3, 2, a)).wantLines(t, text, "call", "call 0 thread 0 get 8 begin 0 end 3 point 2 "+text)
	}
	taleOf(tiny(), open(0, api.OpGet, 8, 0)).wantLines(t, "none", "call", "call 0 thread 0 get 8 begin 0 end - point - -")
}
