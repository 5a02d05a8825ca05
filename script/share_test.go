package script_test

import (
	"slices"
	"strings"
	"sync"
	"testing"

	"reclaim/api"
	"reclaim/script"
)

// fill writes one move into all of a list, its spare room too.
func fill(moves []api.Move, with api.Move) {
	for i := range moves[:cap(moves)] {
		moves[:cap(moves)][i] = with
	}
}

// P6: what is handed to Print stays as it was, its spare room too, and is not kept.
func TestPrintChangesNothing(t *testing.T) {
	d := dice(95)
	for range 500 {
		c := d.config()
		around := append([]api.Move{pop(66)}, d.script(4+d.below(40))...)
		was := slices.Clone(around)
		moves := around[1 : len(around)-3]
		text, e := script.Print(c, moves)
		if e != api.OK || !slices.Equal(around, was) {
			t.Fatalf("%v has become %v, %d", was, around, e)
		}
		copied := strings.Clone(text)
		fill(around, pop(55))
		if again, _ := script.Print(c, was[1:len(was)-3]); text != copied || again != copied {
			t.Fatalf("%q, %q, %q", copied, text, again)
		}
	}
}

// P6: what is written into a script that was answered, its spare room too, is seen in no other answer.
func TestParseSharesNothing(t *testing.T) {
	d := dice(96)
	for range 500 {
		text := d.text(d.below(12), 0)
		was := strings.Clone(text)
		first, second := parse(text), parse(text)
		if !first.same(second) {
			t.Fatalf("%q: %+v, then %+v", text, first.brief(), second.brief())
		}
		kept := slices.Clone(second.moves)
		fill(first.moves, pop(77))
		third := parse(text)
		if text != was || !slices.Equal(second.moves, kept) || !second.same(third) {
			t.Fatalf("%q: two answers share: %+v, %+v", text, second.brief(), third.brief())
		}
	}
}

// P6: of a script that is answered no part is written over by what comes behind it.
func TestSpareRoom(t *testing.T) {
	for _, lines := range []string{"", "0 .", "* 3", "0 . 5\n1 pop", "0 pop\n0 pop\n0 pop"} {
		first := parse(machine + lines)
		long := append(first.moves, pop(7), pop(8))
		second := parse(machine + lines + "\n1 pop\n1 .")
		if !slices.Equal(long[len(long)-2:], []api.Move{pop(7), pop(8)}) || second.moves[len(second.moves)-1] != step(1) {
			t.Errorf("%q: %v, %v", lines, long, second.moves)
		}
	}
}

// P6: the same is answered whatever was asked between.
func TestSameAgain(t *testing.T) {
	d := dice(97)
	for range 1000 {
		text, other := d.text(d.below(9), 5), d.text(d.below(9), 40)
		c, moves := d.config(), d.script(d.below(30))
		one, printed := parse(text), told(script.Print(c, moves))
		parse(other)
		script.Print(api.Config{}, moves)
		script.Print(c, d.script(5))
		script.Word(api.OpPop)
		script.Op(other)
		script.Answer(api.Answer{Kind: 9})
		if again := parse(strings.Clone(text)); !again.same(one) || told(script.Print(c, slices.Clone(moves))) != printed {
			t.Fatalf("%q: %+v, then %+v", text, one.brief(), again.brief())
		}
	}
}

// told is a text with its error.
func told(text string, e api.Errno) [2]string {
	return [2]string{text, string(rune('0' + int(e)))}
}

// P6: calls that are made at the same time answer what each of them does alone.
func TestCallsAtTheSameTime(t *testing.T) {
	d := dice(98)
	c, moves := d.config(), d.script(500)
	text, _ := script.Print(c, moves)
	wrong := text + "\nx\n"
	line := strings.Count(text, "\n") + 2
	var all sync.WaitGroup
	for range 16 {
		all.Go(func() {
			for range 20 {
				if got, e := script.Print(c, moves); got != text || e != api.OK {
					t.Errorf("%q, %d", short(got), e)
				}
				wantRead(t, text, c, moves...)
				wantFault(t, wrong, line, api.ErrLine)
			}
		})
	}
	all.Wait()
}

// P7: nil and empty lists are the same.
func TestNilAndEmpty(t *testing.T) {
	for _, moves := range [][]api.Move{nil, {}, steps(0, 3)[:0]} {
		wantPrint(t, example(), machine, moves...)
		wantNoPrint(t, "no configuration", api.Config{}, moves, api.ErrConfig)
	}
	if r := parse(machine); len(r.moves) != 0 || r.e != api.OK {
		t.Errorf("%+v", r)
	}
}
