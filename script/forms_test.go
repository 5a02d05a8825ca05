package script_test

import (
	"slices"
	"strconv"
	"strings"
	"testing"

	"reclaim/api"
)

// meant is a line and the moves that it has behind the example's machine.
type meant struct {
	line  string
	moves []api.Move
}

// meanings has lines of each form, and of each word.
func meanings() []meant {
	out := []meant{
		{"0 .", steps(0, 1)}, {"1 .", steps(1, 1)}, {"7 .", steps(7, 1)}, {"-3 .", steps(-3, 1)},
		{"0 . 1", steps(0, 1)}, {"1 . 3", steps(1, 3)}, {"-3 . 2", steps(-3, 2)},
		{"* 1", []api.Move{step(0), step(1)}}, {"* 2", []api.Move{step(0), step(1), step(0), step(1)}},
		{"4 op 5 6 7", []api.Move{{Thread: 4, Op: 5, Arg: 6, Data: 7}}}, {"-4 op -5 -6 -7", []api.Move{{Thread: -4, Op: -5, Arg: -6, Data: -7}}},
		{"0 op 0 0 0", steps(0, 1)}, {"0 op 31 0 0", []api.Move{pop(0)}}, {"1 op 30 8 0", []api.Move{push(1, 8)}}, {"0 op 0 1 0", []api.Move{{Arg: 1}}},
	}
	for _, s := range spellings() {
		given := [2]int{5, -50}
		line := "3 " + s.word
		for i := range given {
			if i < s.args {
				line += " " + strconv.Itoa(given[i])
			} else {
				given[i] = 0
			}
		}
		out = append(out, meant{line, []api.Move{{Thread: 3, Op: s.op, Arg: given[0], Data: given[1]}}})
	}
	return out
}

// P17.1: each form and each word, alone and one behind the other.
func TestForms(t *testing.T) {
	var lines []string
	var moves []api.Move
	for _, x := range meanings() {
		wantMoves(t, x.line, x.moves...)
		lines, moves = append(lines, x.line), append(moves, x.moves...)
	}
	wantMoves(t, strings.Join(lines, "\n"), moves...)
}

// P17.1: rounds are of all threads, from 0 on.
func TestRounds(t *testing.T) {
	for n := 1; n <= 16; n++ {
		var round []api.Move
		for thread := range n {
			round = append(round, step(thread))
		}
		for times := 1; times <= 5; times++ {
			wantRead(t, threads(n)+"* "+strconv.Itoa(times), configOf(n, 2, 3, 1, 0, 4, 1), slices.Repeat(round, times)...)
		}
	}
}

// P17.1: each form with a word less, a word more in each place, and two words that have changed their places.
func TestFormsOfOtherWords(t *testing.T) {
	known := map[string]int{}
	for _, x := range meanings() {
		known[shape(strings.Fields(x.line))] = 1
	}
	for _, x := range meanings() {
		words := strings.Fields(x.line)
		want := func(line []string) {
			t.Helper()
			if known[shape(line)] == 0 {
				wantFault(t, machine+strings.Join(line, " "), 2, api.ErrLine)
			}
		}
		for i := range words {
			want(slices.Delete(slices.Clone(words), i, i+1))
			for j := range i {
				line := slices.Clone(words)
				line[i], line[j] = line[j], line[i]
				want(line)
			}
		}
		for i := range len(words) + 1 {
			for _, more := range []string{"1", "x", ".", "*", "op", "pop", "push", "add", "machine"} {
				want(slices.Insert(slices.Clone(words), i, more))
			}
		}
	}
}

// shape is a line's words with N for its numbers.
func shape(words []string) string {
	var out []string
	for _, w := range words {
		if _, err := strconv.Atoi(w); err == nil {
			w = "N"
		}
		out = append(out, w)
	}
	return strings.Join(out, " ")
}

// P17.1: words that are none, in the place of a call's word.
func TestNoWords(t *testing.T) {
	for _, w := range noWords() {
		if strings.ContainsAny(w, " \t\r\n") || w == "" || w[0] == '#' {
			continue
		}
		if w != "." {
			wantFault(t, machine+"0 "+w, 2, api.ErrLine)
			wantFault(t, machine+"0 "+w+" 1", 2, api.ErrLine)
		}
		wantFault(t, machine+"0 "+w+" 1 2", 2, api.ErrLine)
		if w != "op" {
			wantFault(t, machine+"0 "+w+" 1 2 3", 2, api.ErrLine)
		}
	}
	for _, line := range []string{". 1", "** 1", "*. 1", "x 1", "- 1", "pop 1", "*1", "0.", "0. 2", "0 .2", "0 ..", "* .", "* . 2", "* pop", "*", ".", "0", "op", "pop"} {
		wantFault(t, machine+line, 2, api.ErrLine)
	}
}
