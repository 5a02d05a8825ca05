package script_test

import (
	"testing"

	"reclaim/api"
)

// wrong is a line in which several things are, behind a script that has room for no move more or for all, and which of
// them is told.
type wrong struct {
	line string
	e    api.Errno
}

// P17.1: of one line ErrLine comes ahead of ErrDigit, that of ErrRange, that of ErrLong, wherever in the line they are.
func TestOrderInOneLine(t *testing.T) {
	full := machine + "0 . 65536\n"
	for _, x := range []wrong{
		{"x . 0", api.ErrLine}, {"x . 05", api.ErrLine}, {"x . 65537", api.ErrLine}, {"05 . x", api.ErrLine}, {"-0 . -", api.ErrLine}, {"05 .. 0", api.ErrLine},
		{"05 . 0 0", api.ErrLine}, {"0 . 05 x", api.ErrLine}, {"* 05 0", api.ErrLine}, {"* 0 05", api.ErrLine}, {"05 push x", api.ErrLine}, {"x push 05", api.ErrLine},
		{"05 push", api.ErrLine}, {"05 pop 1", api.ErrLine}, {"05 pap", api.ErrLine}, {"05 add 05 x", api.ErrLine}, {"05 add x 05", api.ErrLine}, {"0 add 05", api.ErrLine},
		{"05 op x 0 0", api.ErrLine}, {"0 op 05 05 x", api.ErrLine}, {"0 op 05 05", api.ErrLine}, {"x op 05 0 0", api.ErrLine}, {"05", api.ErrLine}, {"05 05", api.ErrLine}, {"0 0 05", api.ErrLine},
		{"05 . 0", api.ErrDigit}, {"05 . 65537", api.ErrDigit}, {"05 . -1", api.ErrDigit}, {"05 . 1", api.ErrDigit}, {"0 . 00", api.ErrDigit}, {"0 . 065537", api.ErrDigit}, {"0 . -0", api.ErrDigit},
		{"* 00", api.ErrDigit}, {"* 99999999999999999999", api.ErrDigit}, {"05 .", api.ErrDigit}, {"05 pop", api.ErrDigit}, {"0 add 5 06", api.ErrDigit}, {"0 op 0 0 00", api.ErrDigit},
		{"0 . 0", api.ErrRange}, {"0 . 65537", api.ErrRange}, {"0 . -5", api.ErrRange}, {"* 0", api.ErrRange}, {"* 65537", api.ErrRange}, {"* 9223372036854775807", api.ErrRange},
	} {
		wantFault(t, machine+x.line, 2, x.e)
		wantFault(t, full+x.line, 3, x.e)
		wantFault(t, full+x.line+"\n0 .", 3, x.e)
	}
	for _, line := range []string{"0 .", "0 . 1", "* 1", "0 pop", "0 push 5", "0 add 5 6", "0 op 0 0 0", "-1 .", "99 op 99 99 99"} {
		wantFault(t, full+line, 3, api.ErrLong)
	}
}

// P17.1: of the machine's line ErrLine comes ahead of ErrDigit, that of ErrConfig, in whatever order they stand.
func TestOrderInTheMachine(t *testing.T) {
	for _, x := range []wrong{
		{"machine threads 05 records x hazards 3 retire 1 cache 0 slots 4 buckets 1", api.ErrLine},
		{"machine threads x records 05 hazards 3 retire 1 cache 0 slots 4 buckets 1", api.ErrLine},
		{"machine threads 05 records 2 hazards 3 retire 1 cache 0 slots 4 bucket 1", api.ErrLine},
		{"machine threads 0 records 2 hazards 3 retire 1 cache 0 slots 4 buckets x", api.ErrLine},
		{"machine threads 05 records 2 hazards 3 retire 1 cache 0 slots 4 buckets", api.ErrLine},
		{"machine threads 05 records 2 hazards 3 retire 1 cache 0 slots 4 buckets 1 1", api.ErrLine},
		{"machines threads 05 records 0 hazards 3 retire 1 cache 0 slots 4 buckets 1", api.ErrLine},
		{"machine threads 0 records 2 hazards 3 retire 1 cache 0 slots 4 buckets 01", api.ErrDigit},
		{"machine threads 05 records 2 hazards 3 retire 1 cache 0 slots 4 buckets 0", api.ErrDigit},
		{"machine threads 2 records 2 hazards 3 retire 1 cache -0 slots 4 buckets 65", api.ErrDigit},
		{"machine threads 17 records 2 hazards 3 retire 1 cache 0 slots 4 buckets 65", api.ErrConfig},
	} {
		wantFault(t, x.line, 1, x.e)
		wantFault(t, x.line+"\n0 pop", 1, x.e)
	}
}

// P17.1: of two lines the first one's error is told, whatever the two are.
func TestOrderInTwoLines(t *testing.T) {
	wrongs := []wrong{{"x", api.ErrLine}, {"0 push 05", api.ErrDigit}, {"0 . 0", api.ErrRange}, {"* 40000", api.ErrLong}}
	for _, one := range wrongs {
		wantFault(t, machine+one.line+"\n0 pop\n", 2, one.e)
		wantFault(t, machine+"0 pop\n"+one.line+"\n", 3, one.e)
		for _, two := range wrongs {
			wantFault(t, machine+one.line+"\n"+two.line, 2, one.e)
			wantFault(t, machine+"0 pop\n\n"+one.line+"\n0 pop\n"+two.line+"\n", 4, one.e)
		}
		wantFault(t, machineOf(api.Config{})+one.line, 1, api.ErrConfig)
		wantFault(t, "machine\n"+one.line, 1, api.ErrLine)
		wantFault(t, one.line+"\n"+machine, 1, api.ErrLine)
		wantFault(t, one.line+"\n"+machineOf(api.Config{}), 1, api.ErrLine)
	}
}
