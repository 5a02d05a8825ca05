package script_test

import (
	"testing"

	"reclaim/api"
	"reclaim/script"
)

// Example 1: a script, there and back.
func TestExampleOfAScript(t *testing.T) {
	moves := []api.Move{{Thread: 0, Op: api.OpRegister}, step(0), step(0), push(1, -5), step(0), step(1)}
	wantMoves(t, "0 register # first\n0 . 2\n\n1 push -5\n* 1\n", moves...)
	wantPrint(t, example(), machine+"0 register\n0 . 2\n1 push -5\n0 .\n1 .\n", moves...)
}

// Example 2: what is wrong with lines.
func TestExamplesOfFaults(t *testing.T) {
	wantFault(t, "", 0, api.ErrEarlyEnd)
	wantFault(t, "0 pop\n", 1, api.ErrLine)
	for _, x := range []struct {
		line string
		e    api.Errno
	}{
		{"0 push\n", api.ErrLine}, {"0 push 05\n", api.ErrDigit}, {"0 push -0\n", api.ErrDigit}, {"0 push five\n", api.ErrLine}, {"0 push -\n", api.ErrLine},
		{"0 push 9223372036854775808\n", api.ErrDigit}, {"0 . 0\n", api.ErrRange}, {"* 40000\n", api.ErrLong}, {"0 push 5five", api.ErrDigit}, {"x push 05", api.ErrLine},
	} {
		wantFault(t, machine+x.line, 2, x.e)
	}
}

// Example 3: what is wrong with the machine's line.
func TestExamplesOfMachines(t *testing.T) {
	wantFault(t, "machine threads 0 records 1 hazards 3 retire 1 cache 0 slots 1 buckets 1", 1, api.ErrConfig)
	wantFault(t, "machine threads 1", 1, api.ErrLine)
}

// Example 4: moves that no word's line tells, and steps of a thread that there isn't.
func TestExamplesOfPrint(t *testing.T) {
	wantPrint(t, example(), machine+"0 op 31 7 0\n", api.Move{Op: api.OpPop, Arg: 7})
	wantPrint(t, example(), machine+"-3 . 2\n", step(-3), step(-3))
	wantPrint(t, example(), machine+"0 op 99 1 2\n", api.Move{Op: 99, Arg: 1, Data: 2})
}

// Example 5: answers.
func TestExamplesOfAnswers(t *testing.T) {
	if text, e := script.Answer(api.Answer{Kind: api.AnswerValue, Value: -3}); text != "value -3" || e != api.OK {
		t.Errorf("%q, %d", text, e)
	}
	if text, e := script.Answer(api.Answer{Kind: api.AnswerDone, Value: 1}); text != "" || e != api.ErrRange {
		t.Errorf("%q, %d", text, e)
	}
}
