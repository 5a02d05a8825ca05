package script_test

import (
	"slices"
	"strconv"
	"strings"
	"testing"

	"reclaim/api"
	"reclaim/script"
)

// P17.2: the machine's line alone, of each configuration that may be.
func TestPrintOfMachines(t *testing.T) {
	wantPrint(t, configOf(1, 2, 3, 4, 5, 6, 7), "machine threads 1 records 2 hazards 3 retire 4 cache 5 slots 6 buckets 7\n")
	for _, c := range goodConfigs() {
		wantPrint(t, c, machineOf(c))
	}
}

// P17.2: steps of one thread, one behind the other, are one line; those of several threads, or with something between,
// are not.
func TestPrintOfSteps(t *testing.T) {
	for _, thread := range []int{0, 1, 2, 16, -1, -3, least, greatest} {
		name := strconv.Itoa(thread)
		wantPrint(t, example(), machine+name+" .\n", step(thread))
		for _, n := range []int{2, 3, 9, 10, 100, 65535, 65536} {
			wantPrint(t, example(), machine+name+" . "+strconv.Itoa(n)+"\n", steps(thread, n)...)
		}
	}
	wantPrint(t, example(), machine+"0 . 2\n1 . 3\n0 .\n1 .\n0 . 2\n", slices.Concat(steps(0, 2), steps(1, 3), steps(0, 1), steps(1, 1), steps(0, 2))...)
	wantPrint(t, example(), machine+"0 .\n1 .\n0 .\n1 .\n", step(0), step(1), step(0), step(1))
	wantPrint(t, example(), machine+"0 . 2\n0 pop\n0 . 3\n1 pop\n0 .\n", slices.Concat(steps(0, 2), []api.Move{pop(0)}, steps(0, 3), []api.Move{pop(1)}, steps(0, 1))...)
	wantPrint(t, example(), machine+"0 .\n0 op 0 1 0\n0 . 2\n0 op 0 0 1\n0 op 0 0 1\n0 .\n", step(0), api.Move{Arg: 1}, step(0), step(0), api.Move{Data: 1}, api.Move{Data: 1}, step(0))
}

// P17.2: calls one behind the other stay lines of their own.
func TestPrintOfEqualCalls(t *testing.T) {
	wantPrint(t, example(), machine+"0 pop\n0 pop\n0 push 5\n0 push 5\n0 op 9 0 0\n0 op 9 0 0\n", pop(0), pop(0), push(0, 5), push(0, 5), api.Move{Op: 9}, api.Move{Op: 9})
}

// P17.2: a word's line, if it has all that isn't 0; else an op line.
func TestPrintOfWords(t *testing.T) {
	for _, s := range spellings() {
		for _, arg := range []int{0, 5, -5, least, greatest} {
			for _, data := range []int{0, 7, -7, least, greatest} {
				line := "-2 op " + strconv.Itoa(int(s.op)) + " " + strconv.Itoa(arg) + " " + strconv.Itoa(data)
				switch {
				case s.args == 0 && arg == 0 && data == 0:
					line = "-2 " + s.word
				case s.args == 1 && data == 0:
					line = "-2 " + s.word + " " + strconv.Itoa(arg)
				case s.args == 2:
					line = "-2 " + s.word + " " + strconv.Itoa(arg) + " " + strconv.Itoa(data)
				}
				wantPrint(t, example(), machine+line+"\n", api.Move{Thread: -2, Op: s.op, Arg: arg, Data: data})
			}
		}
	}
}

// P17.2: ops without a word, steps with Arg or Data too.
func TestPrintOfOps(t *testing.T) {
	for _, op := range []api.Op{0, 3, 9, 13, 26, 32, 42, 53, 63, 80, 90, 100, 120, 130, 140, 99, -1, -31, 1<<32 + 31, least, greatest} {
		for _, mv := range []api.Move{{Arg: 1}, {Data: 1}, {Arg: -1, Data: least}, {Thread: 5, Arg: greatest}, {Thread: least, Arg: least, Data: least}, {}} {
			if mv.Op = op; mv == step(mv.Thread) {
				continue
			}
			line := strconv.Itoa(mv.Thread) + " op " + strconv.Itoa(int(op)) + " " + strconv.Itoa(mv.Arg) + " " + strconv.Itoa(mv.Data)
			wantPrint(t, example(), machine+line+"\n", mv)
			wantPrint(t, example(), machine+line+"\n"+line+"\n", mv, mv)
		}
	}
}

// P17.2: each number of the configuration is looked at, ahead of all else.
func TestPrintErrors(t *testing.T) {
	for _, c := range badConfigs() {
		for _, moves := range [][]api.Move{nil, {pop(0)}, steps(0, 65536), steps(0, 65537), slices.Repeat([]api.Move{{Thread: least, Op: least}}, 65536)} {
			wantNoPrint(t, "a configuration that may not be", c, moves, api.ErrConfig)
		}
	}
	wantNoPrint(t, "one step too many", example(), steps(0, 65537), api.ErrLong)
	wantNoPrint(t, "one pop too many", example(), slices.Repeat([]api.Move{pop(0)}, 65537), api.ErrLong)
	wantNoPrint(t, "far too many moves", example(), steps(0, 1<<20), api.ErrLong)
	wantPrint(t, example(), machine+"0 . 65536\n", steps(0, 65536)...)
	wantPrint(t, example(), machine+strings.Repeat("0 pop\n", 65536), slices.Repeat([]api.Move{pop(0)}, 65536)...)
}

// tens is the least number of so many digits.
func tens(digits int) int {
	n := 1
	for range digits - 1 {
		n *= 10
	}
	return n
}

// pushes are some whose lines have so many bytes in all: of 20 each, and one of what is left.
func pushes(bytes int) []api.Move {
	moves := slices.Repeat([]api.Move{push(1, tens(12))}, bytes/20-1)
	digits := bytes - 20*len(moves) - len(" push \n")
	return append(moves, push(tens(min(digits-1, 18)), tens(max(digits-18, 1))))
}

// P17.2: texts of MaxText bytes, and of one more.
func TestPrintAtTheBound(t *testing.T) {
	for _, more := range []int{-21, -2, -1, 0, 1, 2, 19, 1 << 12} {
		moves := pushes(1<<20 + more - len(machine))
		if more > 0 {
			wantNoPrint(t, strconv.Itoa(more)+" bytes too many", example(), moves, api.ErrLong)
			continue
		}
		text, e := script.Print(example(), moves)
		if e != api.OK || len(text) != 1<<20+more {
			t.Errorf("%d bytes, %d, not %d", len(text), e, 1<<20+more)
		}
		wantRead(t, text, example(), moves...)
	}
	for _, mv := range []api.Move{{Thread: least, Op: least, Arg: least, Data: least}, {Thread: 1, Op: api.OpPush, Arg: tens(9)}} {
		wantNoPrint(t, "many long lines", example(), slices.Repeat([]api.Move{mv}, 65536), api.ErrLong)
	}
}
