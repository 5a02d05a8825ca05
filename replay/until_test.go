package replay_test

import (
	"slices"
	"testing"

	"reclaim/api"
)

// tale is a script of one thread whose calls give each kind of answers: how many moves are made when each of them has
// ended is told by the steps that the chapters of the objects tell.
func tale() []api.Move {
	return slices.Concat(
		with(register(0), 2),                  // value 0: 3
		with(push(0, 7), 7),                   // done: 11
		with(push(0, 8), 7),                   // done: 19
		with(push(0, 9), 1),                   // full: 21
		with(pop(0), 13),                      // value 8: 35
		with(pop(0), 13),                      // value 7: 49
		with(pop(0), 1),                       // empty: 51
		with(pop(0), 1),                       // empty: 53
		with(move(0, api.OpContains, 3), 4),   // no: 58
		with(move(0, api.OpInsert, 3), 11),    // yes: 70
		with(move(0, api.OpContains, 3), 20),  // yes
		with(move(0, api.OpDequeue, 0), 20),   // empty
		with(move(0, api.OpEnqueue, 7), 20),   // done
		with(move(0, api.OpDequeue, 0), 30),   // value 7
		with(move(0, api.OpUnregister, 0), 3), // it hasn't ended
	)
}

// P16.3: each kind of answers, at the end of the first call that gives it.
func TestUntilEachKind(t *testing.T) {
	moves := tale()
	for _, x := range []struct {
		a    api.Answer
		want int
	}{
		{value(0), 3}, {done, 11}, {full, 21}, {value(8), 35}, {value(7), 49}, {empty, 51}, {no, 58}, {yes, 70},
	} {
		wantUntil(t, "a tale", example(), moves, x.a, x.want)
		wantUntil(t, "just so far", example(), moves[:x.want], x.a, x.want)
		wantUntil(t, "a move less", example(), moves[:x.want-1], x.a, x.want-1)
		wantUntil(t, "a tale", example(), moves, x.a, firstEnd(t, example(), moves, x.a))
	}
}

// firstEnd is how many moves are made up to the first with which a call ends that answers so; all of them, if there is
// none. It is told by the whole run, whose calls stand as they began.
func firstEnd(t *testing.T, c api.Config, moves []api.Move, a api.Answer) int {
	t.Helper()
	first := len(moves)
	for _, call := range plain(t, c, moves).Calls {
		if call.End >= 0 && call.Answer.Kind == a.Kind && call.Answer.Value == a.Value {
			first = min(first, call.End+1)
		}
	}
	return first
}

// P16.3: answers that no call gives, though one gives such a Kind or such a Value.
func TestUntilNever(t *testing.T) {
	moves := tale()
	calls := plain(t, example(), moves).Calls
	if last := calls[len(calls)-1]; len(calls) != 15 || last.End != -1 {
		t.Fatalf("%+v", calls)
	}
	for _, a := range []api.Answer{
		value(9), value(-1), value(1), value(least), value(greatest), value(1<<32 + 7), // in Value alone
		{Kind: api.AnswerDone, Value: 1}, {Kind: api.AnswerEmpty, Value: 7}, {Kind: api.AnswerNo, Value: -1}, {Kind: api.AnswerFull, Value: 8}, {Kind: api.AnswerYes, Value: 3},
		{Kind: 7}, {Kind: -1}, {Kind: least}, {Kind: greatest}, {Kind: 1<<32 + 2}, {Kind: 7, Value: 7}, {Kind: 1<<32 + 2, Value: 8}, // in Kind alone
		none, {Kind: api.AnswerNone, Value: 7}, {Kind: api.AnswerNone, Value: greatest}, // of calls that haven't ended
	} {
		wantUntil(t, "never", example(), moves, a, len(moves))
	}
	// The same kinds with the value that only the register gives, 0.
	short := moves[:3]
	for _, a := range []api.Answer{done, empty, full, yes, no} {
		wantUntil(t, "never", example(), short, a, len(short))
	}
}

// P16.3: an answer that a call is going to give is none as long as it hasn't ended, though its point is past.
func TestUntilNotEnded(t *testing.T) {
	c := example()
	moves := slices.Concat(with(register(0), 2), with(push(0, 7), 7), with(pop(0), 12))
	run := plain(t, c, moves)
	if last := run.Calls[2]; last.Point < 0 || last.End != -1 || last.Answer != none {
		t.Fatalf("%+v", last)
	}
	for _, a := range []api.Answer{value(7), none} {
		wantUntil(t, "not ended", c, moves, a, len(moves))
		wantUntil(t, "nobody's moves behind it", c, append(slices.Clone(moves), step(1), step(-1)), a, len(moves)+2)
	}
	wantUntil(t, "ended", c, append(slices.Clone(moves), step(-1), step(0), step(0)), value(7), len(moves)+2)
}

// P16.3: answers that calls that began and haven't ended have: none stops the script, at its beginning neither.
func TestUntilNone(t *testing.T) {
	c := threads(2)
	for _, moves := range [][]api.Move{
		nil, {step(0)}, {step(1), step(0)}, {step(-1)}, {step(2), step(0)}, {register(0)}, {push(0, 1)}, {register(0), register(1), step(1)},
		{flush(1), step(0), step(1), step(1)}, meeting(),
	} {
		for _, a := range []api.Answer{none, {Value: 5}, {Value: -1}} {
			wantUntil(t, "none", c, moves, a, len(moves))
		}
	}
}

// P16.3: of several calls that answer so the first one that ends counts, not the first one that began.
func TestUntilFirstEnd(t *testing.T) {
	c := threads(3)
	moves := slices.Concat(registers(c), []api.Move{pop(0), flush(2), pop(1), step(1), step(0), step(2)})
	n := len(moves)
	wantUntil(t, "thread 1's end", c, moves, empty, n-2)
	wantUntil(t, "thread 2's end", c, moves, done, n)
	wantUntil(t, "thread 1's register", c, moves, value(1), firstEnd(t, c, moves, value(1)))
	// With the call that began last left to end last.
	moves = slices.Concat(registers(c), []api.Move{pop(0), flush(2), pop(1), step(2), step(0), step(1)})
	wantUntil(t, "thread 0's end", c, moves, empty, n-1)
}

// P16.3: of calls that are made again and again, with the same answer, the first one counts; a thread's former call
// doesn't count for its next one.
func TestUntilAgain(t *testing.T) {
	c := threads(2)
	moves := slices.Concat(with(flush(0), 1), with(register(0), 4), with(pop(0), 1), with(pop(0), 1), with(flush(0), 1))
	wantUntil(t, "done", c, moves, done, 2)
	wantUntil(t, "value 0", c, moves, value(0), 5)
	wantUntil(t, "empty", c, moves, empty, 9)
	wantUntil(t, "done behind it", c, moves[2:], done, len(moves)-2)
}

// P16.3: the moves behind the one that ends it aren't made: neither the same thread's nor others', nor nobody's.
func TestUntilNoFurther(t *testing.T) {
	c := threads(2)
	start := slices.Concat(registers(c), with(pop(0), 1))
	for _, behind := range [][]api.Move{
		{step(0)}, {step(1)}, {step(-1)}, {step(2), step(2), push(0, 3)}, {push(1, 9), step(1)}, with(pop(0), 1), with(pop(1), 1),
	} {
		wantUntil(t, "moves behind it", c, slices.Concat(start, behind), empty, len(start))
	}
}

// P16.3: a script of no moves.
func TestUntilOfNoMoves(t *testing.T) {
	for _, a := range []api.Answer{none, done, value(0), empty} {
		wantUntil(t, "nil", example(), nil, a, 0)
		wantUntil(t, "empty", example(), []api.Move{}, a, 0)
	}
}
