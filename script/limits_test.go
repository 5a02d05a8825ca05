package script_test

import (
	"slices"
	"strconv"
	"strings"
	"testing"

	"reclaim/api"
)

// P17.1: an N is 1 to MaxMoves.
func TestCounts(t *testing.T) {
	one := threads(1)
	c := configOf(1, 2, 3, 1, 0, 4, 1)
	for _, line := range counts() {
		for _, n := range []int{1, 2, 65535, 65536} {
			wantRead(t, one+put(line, strconv.Itoa(n)), c, steps(0, n)...)
		}
		for _, n := range []int{0, -1, -2, -65536, 65537, 65538, 1 << 31, 1 << 32, 1<<32 + 1, 1<<48 + 1, -1 << 32, least, least + 1, greatest} {
			wantFault(t, one+put(line, strconv.Itoa(n)), 2, api.ErrRange)
			wantFault(t, machine+"0 pop\n"+put(line, strconv.Itoa(n)), 3, api.ErrRange)
		}
	}
	for _, thread := range []int{-1, 5, least, greatest} {
		wantFault(t, one+strconv.Itoa(thread)+" . 0", 2, api.ErrRange)
	}
}

// singles are lines of one move each.
func singles() []string {
	return []string{"0 .\n", "0 . 1\n", "-1 .\n", "0 pop\n", "0 push 5\n", "0 add 1 2\n", "0 op 9 9 9\n"}
}

// P17.1: a script of MaxMoves moves and one of one more, by steps.
func TestLongBySteps(t *testing.T) {
	wantMoves(t, "1 . 65536", steps(1, 65536)...)
	wantMoves(t, "1 . 65535\n1 .", steps(1, 65536)...)
	wantMoves(t, "1 .\n1 . 65535\n# full\n", steps(1, 65536)...)
	wantMoves(t, "1 . 1\n1 . 32768\n1 . 32767", steps(1, 65536)...)
	wantFault(t, machine+"1 . 65536\n1 .", 3, api.ErrLong)
	wantFault(t, machine+"1 . 65535\n0 . 2", 3, api.ErrLong)
	wantFault(t, machine+"1 .\n1 . 65536", 3, api.ErrLong)
	wantFault(t, machine+"1 . 65536\n1 . 65536", 3, api.ErrLong)
	wantFault(t, machine+"1 . 40000\n\n1 . 40000\n1 . 40000", 4, api.ErrLong)
}

// P17.1: likewise by rounds, whose moves are as many as the threads for each.
func TestLongByRounds(t *testing.T) {
	for n := 1; n <= 16; n++ {
		most, line := 65536/n, threads(n)
		left := 65536 - most*n
		text := line + "* " + strconv.Itoa(most) + "\n"
		if r := parse(text); r.e != api.OK || r.line != 0 || len(r.moves) != most*n {
			t.Errorf("%d threads: %d moves, %+v", n, len(r.moves), r.brief())
		}
		if left > 0 {
			text += "0 . " + strconv.Itoa(left) + "\n"
		}
		if r := parse(text); r.e != api.OK || r.line != 0 || len(r.moves) != 65536 {
			t.Errorf("%d threads: %d moves, %+v", n, len(r.moves), r.brief())
		}
		wantFault(t, text+"0 .", strings.Count(text, "\n")+1, api.ErrLong)
		if n > 1 {
			wantFault(t, line+"* "+strconv.Itoa(most+1), 2, api.ErrLong)
			wantFault(t, line+"* 65536", 2, api.ErrLong)
		}
		wantFault(t, line+"* "+strconv.Itoa(most)+"\n* 1\n", 3, api.ErrLong)
		wantFault(t, line+"0 . 65536\n* 1\n", 3, api.ErrLong)
	}
}

// P17.1: likewise by lines of one move.
func TestLongBySingleLines(t *testing.T) {
	for _, line := range singles() {
		mv := parse(machine + line).moves
		wantMoves(t, strings.Repeat(line, 65536), slices.Repeat(mv, 65536)...)
		wantFault(t, machine+strings.Repeat(line, 65537), 65538, api.ErrLong)
		wantMoves(t, line+"0 . 65535", append(mv, steps(0, 65535)...)...)
		wantFault(t, machine+"0 . 65536\n"+line, 3, api.ErrLong)
		wantFault(t, machine+line+"0 . 65536\n", 3, api.ErrLong)
	}
}

// P17.1: texts of MaxText bytes, of blanks, of comments, of lines that mean nothing, of a word; and of one byte more.
func TestLongTexts(t *testing.T) {
	script := machine + "0 pop\n1 push 5"
	for _, pad := range []string{" ", "\n", "\t", "\r", "#", "\u00a0"} {
		ahead := script
		if pad == "#" || pad == "\u00a0" {
			ahead += " #"
		}
		count := (1<<20 - len(ahead)) / len(pad)
		text := ahead + strings.Repeat(pad, count)
		text += strings.Repeat(" ", 1<<20-len(text))
		wantRead(t, text, example(), pop(0), push(1, 5))
		wantFault(t, text+" ", 0, api.ErrLong)
		wantFault(t, text+"\n", 0, api.ErrLong)
		wantFault(t, text+text, 0, api.ErrLong)
	}
	front := "#" + strings.Repeat("-", 1<<20-len(script)-2) + "\n" + script
	wantRead(t, front, example(), pop(0), push(1, 5))
	wantFault(t, "#"+front, 0, api.ErrLong)
	wantFault(t, strings.Repeat("x", 1<<20), 1, api.ErrLine)
	wantFault(t, strings.Repeat("x ", 1<<19), 1, api.ErrLine)
	wantFault(t, machine+strings.Repeat("0 ", (1<<20-len(machine))/2), 2, api.ErrLine)
	wantFault(t, machine+strings.Repeat("9", 1<<20-len(machine)), 2, api.ErrLine)
	digits := machine + "0 push "
	wantFault(t, digits+strings.Repeat("9", 1<<20-len(digits)), 2, api.ErrDigit)
}

// P17.1: a text that is too long is looked at no further.
func TestLongTextsOfOtherFaults(t *testing.T) {
	for _, ahead := range []string{"", "0 pop\n", machine + "x\n", machine + "0 . 0\n", machine + "0 push 05\n", machineOf(api.Config{}), machine + "0 . 65536\n0 .\n"} {
		wantFault(t, ahead+strings.Repeat("\n", 1<<20+1-len(ahead)), 0, api.ErrLong)
		wantFault(t, ahead+strings.Repeat(" ", 1<<20+1), 0, api.ErrLong)
		if r := parse(ahead + strings.Repeat("\n", 1<<20-len(ahead))); r.e == api.OK || !r.same(parse(ahead)) {
			t.Errorf("%q: %+v, not %+v", ahead, r.brief(), parse(ahead).brief())
		}
	}
}
