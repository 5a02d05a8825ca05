package script_test

import (
	"math"
	"strconv"
	"strings"
	"testing"

	"reclaim/api"
)

// places are lines with a number's place, told by a ?, of each form, that may have any number there.
func places() []string {
	return []string{"? .", "? . 5", "? pop", "? push 5", "0 push ?", "? add 5 6", "0 add ? 6", "0 add 5 ?", "? op 1 2 3", "0 op ? 2 3", "0 op 1 ? 3", "0 op 1 2 ?"}
}

// counts are lines with the place of an N.
func counts() []string { return []string{"0 . ?", "* ?"} }

func put(line, number string) string { return strings.Replace(line, "?", number, 1) }

// P17.1: numbers, at the int's bounds too.
func TestNumbers(t *testing.T) {
	for _, n := range []int{0, 1, -1, 9, 10, -10, 42, 65536, -65537, 1 << 31, -1 << 31, 1 << 32, 1000000000000000000, greatest - 1, greatest, least + 1, least} {
		s := strconv.Itoa(n)
		wantMoves(t, s+" .", step(n))
		wantMoves(t, s+" . 2", step(n), step(n))
		wantMoves(t, s+" pop", pop(n))
		wantMoves(t, "0 push "+s, push(0, n))
		wantMoves(t, "1 add "+s+" 6", api.Move{Thread: 1, Op: api.OpAdd, Arg: n, Data: 6})
		wantMoves(t, "1 add 5 "+s, api.Move{Thread: 1, Op: api.OpAdd, Arg: 5, Data: n})
		wantMoves(t, s+" op 1 2 3", api.Move{Thread: n, Op: 1, Arg: 2, Data: 3})
		wantMoves(t, "4 op "+s+" 2 3", api.Move{Thread: 4, Op: api.Op(n), Arg: 2, Data: 3})
		wantMoves(t, "4 op 1 "+s+" 3", api.Move{Thread: 4, Op: 1, Arg: n, Data: 3})
		wantMoves(t, "4 op 1 2 "+s, api.Move{Thread: 4, Op: 1, Arg: 2, Data: n})
	}
}

// noNumbers are words that begin as a number does and are none.
func noNumbers() []string {
	return []string{
		"9223372036854775808", "-9223372036854775809", "18446744073709551616", "-18446744073709551615", "99999999999999999999", "-99999999999999999999",
		strings.Repeat("9", 1<<16), strings.Repeat("0", 1<<16), "1" + strings.Repeat("0", 400),
		"00", "01", "05", "007", "-0", "-00", "-01", "-05", "09223372036854775807", "0" + strconv.Itoa(math.MaxInt32),
		"5five", "5.", "5.0", "5-", "5+", "5#", "5_0", "1_000", "0x", "0x1", "0b1", "0o7", "0.", "0-", "1e3", "-5x", "-5-", "-0x1", "5\x00", "5\xff", "5\u00a0", "5\u0665", "-5\v", "0*",
	}
}

// notDigits are words that don't begin as a number does.
func notDigits() []string {
	return []string{
		"-", "--", "--5", "-x", "-x5", "-.5", "-+5", "-\u0665", "+", "+5", "+0", ".", ".5", "*", "*5", "x", "x5", "five", "N", "_5", "\u0665", "\uff15", "\u2212" + "5", "\x005", "\xff5",
		"\u00a05", "\v5", "'5'", "(5)", ",", "op", "pop", "machine", "-#5",
	}
}

// P17.1: a word that begins as a number does and is none is ErrDigit, any other ErrLine, in each place of a number.
func TestNoNumbers(t *testing.T) {
	for _, line := range append(places(), counts()...) {
		for _, s := range noNumbers() {
			wantFault(t, machine+put(line, s), 2, api.ErrDigit)
		}
		for _, s := range notDigits() {
			wantFault(t, machine+put(line, s), 2, api.ErrLine)
		}
	}
}

// P17.1: likewise in each place of the machine's line.
func TestNoNumbersOfTheMachine(t *testing.T) {
	words := strings.Fields(machine)
	for place := 2; place < len(words); place += 2 {
		with := func(s string) string {
			line := append([]string(nil), words...)
			line[place] = s
			return strings.Join(line, " ")
		}
		for _, s := range noNumbers() {
			wantFault(t, with(s), 1, api.ErrDigit)
		}
		for _, s := range notDigits() {
			wantFault(t, with(s), 1, api.ErrLine)
		}
		for _, n := range []int{least, greatest, -1} {
			wantFault(t, with(strconv.Itoa(n)), 1, api.ErrConfig)
		}
	}
}
