package script_test

import (
	"slices"
	"strings"
	"testing"

	"reclaim/api"
)

// P17.1: the machine's numbers, each in its place, at its limits.
func TestMachines(t *testing.T) {
	wantRead(t, "machine threads 1 records 2 hazards 3 retire 4 cache 5 slots 6 buckets 7", configOf(1, 2, 3, 4, 5, 6, 7))
	for _, c := range goodConfigs() {
		wantRead(t, machineOf(c), c)
		wantRead(t, "\n"+machineOf(c)+"-1 .\n", c, step(-1))
	}
}

// P17.1: configurations that may not be, whatever stands behind.
func TestMachinesThatMayNotBe(t *testing.T) {
	for _, c := range badConfigs() {
		wantFault(t, machineOf(c), 1, api.ErrConfig)
		wantFault(t, "#\n\n"+machineOf(c)+"0 pop\n", 3, api.ErrConfig)
		wantFault(t, machineOf(c)+"what is this\n", 1, api.ErrConfig)
	}
}

// P17.1: the machine's line with a word less, a word more, two that have changed their places, a word that is another.
func TestMachinesOfOtherWords(t *testing.T) {
	words := strings.Fields(machine)
	want := func(line []string) {
		t.Helper()
		wantFault(t, strings.Join(line, " ")+"\n0 pop\n", 1, api.ErrLine)
	}
	for i := range words {
		want(slices.Delete(slices.Clone(words), i, i+1))
		want(words[:max(i, 1)])
		for _, more := range []string{"1", "0", "machine", "threads", words[i], "x", "."} {
			want(slices.Insert(slices.Clone(words), i, more))
		}
		for j := range i {
			line := slices.Clone(words)
			if line[i], line[j] = line[j], line[i]; i%2 != 0 || j%2 != 0 || i*j == 0 {
				want(line)
			}
		}
		for _, other := range []string{strings.ToUpper(words[i]), words[i] + "s", words[i][:len(words[i])-1], "threads", "op", "*"} {
			if line := slices.Clone(words); other != words[i] && other != "" && (i == 0 || i%2 == 1) {
				line[i] = other
				want(line)
			}
		}
	}
	for _, more := range []string{"1", "x", "buckets", "buckets 1", "."} {
		want(append(slices.Clone(words), more))
	}
}

// P17.1: the pairs of the machine's line in another order.
func TestMachinesInAnotherOrder(t *testing.T) {
	words := strings.Fields(machine)
	for i := 1; i < len(words); i += 2 {
		for j := 1; j < i; j += 2 {
			line := slices.Clone(words)
			line[i], line[i+1], line[j], line[j+1] = words[j], words[j+1], words[i], words[i+1]
			wantFault(t, strings.Join(line, " "), 1, api.ErrLine)
		}
	}
}

// P17.1: the first line that means something is the machine, and no other one is.
func TestPlaceOfTheMachine(t *testing.T) {
	for _, line := range []string{"0 pop", "0 .", "0 . 2", "* 1", "0 op 1 2 3", "0 add 1 2", "x", "0"} {
		wantFault(t, line+"\n"+machine, 1, api.ErrLine)
		wantFault(t, "# first\n"+line, 2, api.ErrLine)
	}
	wantFault(t, machine+machine, 2, api.ErrLine)
	wantFault(t, machine+"0 pop\n\n"+machine, 4, api.ErrLine)
	wantFault(t, machine+"machine\n", 2, api.ErrLine)
}
